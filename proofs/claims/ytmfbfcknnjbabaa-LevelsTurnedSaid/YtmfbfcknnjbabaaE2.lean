/- The contract of own. The contract of step. -/
import Derived.Test.YtmfbfcknnjbabaaB4
set_option linter.unusedSimpArgs false
set_option linter.unusedVariables false
namespace Go.Proofs.Ytmfbfcknnjbabaa
open Go.RowKit

def mn (a b : Int) : Int := if b < a then b else a
def ownTo (T : Town) (u : Int) : Nat → Int
  | 0 => 99
  | k + 1 => match T.s[k]? with
    | none => ownTo T u k
    | some s => if s.well = u then mn (ownTo T u k) s.high else ownTo T u k
def ownOf (T : Town) (u : Int) : Int := ownTo T u T.s.length

set_option maxRecDepth 100000 in
set_option maxHeartbeats 1000000 in
theorem own_any (T : Town) (u : Int) (p q : Option Addr) (c d : Nat) (w : World) (hs : T.s.length ≤ 1000000) (ht : TownIn w w.heap.size T p q) :
    Calls Try.prog 97 #[.agg #[.int .i64 T.W, .slice p T.s.length c, .slice q T.r.length d], .int .i64 u] w fun e w' => e = .returned (.int .i64 (ownOf T u)) ∧ Below w.heap.size w w' := by
  obtain ⟨w1, hw1, hb1, hz1, k0, k1, k2⟩ := box_town w T.W p q T.s.length T.r.length c d
  have HT := Lib.hid ((ht.below hb1).mono (B' := w1.heap.size) (by omega))
  have HB1 := Lib.hid hb1
  clear ht hb1 hz1
  go_enter Try.func97, Try.ntmps97
  go_wp2
  clear hw1
  go_loopw [5, 11] (fun a i wr => ∃ k : Nat, i = .int .i64 k ∧ k ≤ T.s.length ∧ a = .int .i64 (ownTo T u k) ∧ Below w1.heap.size w1 wr) (fun _ i _ => T.s.length - (intOf i).toNat)
  case atStart => exact ⟨0, rfl, Nat.zero_le _, rfl, Below.refl _ _⟩
  case round =>
    obtain ⟨k, rfl, hk, rfl, hb⟩ := hrel
    have HB := Lib.hid hb; clear hb
    obtain ⟨acc, hacc⟩ : ∃ y, ownTo T u k = y := ⟨_, rfl⟩
    by_cases hlt : k < T.s.length
    · obtain ⟨b, o, rfl, hbl, hsn⟩ := (HT.out.below HB.out).s (by omega)
      have e0 := hsn.c0 k hlt
      have e1 := hsn.c1 k hlt
      have e2 := hsn.c2 k hlt
      obtain ⟨s0, hs0⟩ : ∃ s, T.s[k].well = s := ⟨_, rfl⟩
      obtain ⟨s2, hs2⟩ : ∃ s, T.s[k].high = s := ⟨_, rfl⟩
      rw [hs0] at e0; rw [hs2] at e2
      have hst : ownTo T u (k + 1) = if s0 = u then mn acc s2 else acc := by simp only [ownTo, List.getElem?_eq_getElem hlt, hs0, hs2, hacc]
      rw [hacc]
      clear hsn hs0 hs2 hacc
      by_cases he : s0 = u
      · have hb : (s0 == u) = true := by simp [he]
        rw [if_pos he] at hst
        unfold mn at hst
        have HS := Lib.hid hst
        clear hst he
        go_wp2_with (fail)
        by_cases hc : s2 < acc
        · go_wp2
          go_roundw
          case rel => exact ⟨k + 1, by go_num, hlt, by rw [HS.out, if_pos hc], bA HB.out _⟩
          case measure => simp [intOf]; omega
        · go_wp2
          go_roundw
          case rel => exact ⟨k + 1, by go_num, hlt, by rw [HS.out, if_neg (by omega)], bA HB.out _⟩
          case measure => simp [intOf]; omega
      · have hb : (s0 == u) = false := by simp [he]
        rw [if_neg he] at hst
        have HS := Lib.hid hst
        clear hst he
        go_wp2
        go_roundw
        case rel => exact ⟨k + 1, by go_num, hlt, by rw [HS.out], bA HB.out _⟩
        case measure => simp [intOf]; omega
    · obtain rfl : k = T.s.length := by omega
      clear hacc
      go_wp2
      go_ret
      exact ⟨rfl, bT HB1.out HB.out⟩
end Go.Proofs.Ytmfbfcknnjbabaa

namespace Go.Proofs.Ytmfbfcknnjbabaa
open Go.RowKit

/-- what a slope leaves for the one behind less the one ahead -/
def lvs (r : Slp) (u v : Int) : Option Int := if r.a = u ∧ r.b = v then some r.high else if r.a = v ∧ r.b = u then some (wrap64 (-r.low)) else none
def upd (acc : Int × Bool) (x : Int) : Int × Bool := if acc.2 = false ∨ x < acc.1 then (x, true) else acc
def stTo (T : Town) (u v : Int) : Nat → Int × Bool
  | 0 => (0, false)
  | k + 1 => match T.r[k]? with
    | none => stTo T u v k
    | some r => match lvs r u v with
      | none => stTo T u v k
      | some x => upd (stTo T u v k) x
def stOf (T : Town) (u v : Int) : Int × Bool := stTo T u v T.r.length

set_option maxRecDepth 100000 in
set_option maxHeartbeats 2000000 in
theorem step_any (T : Town) (u v : Int) (p q : Option Addr) (c d : Nat) (w : World) (hs : T.r.length ≤ 1000000) (ht : TownIn w w.heap.size T p q) :
    Calls Try.prog 98 #[.agg #[.int .i64 T.W, .slice p T.s.length c, .slice q T.r.length d], .int .i64 u, .int .i64 v] w fun e w' => e = .returned (.tuple #[.int .i64 (stOf T u v).1, .bool (stOf T u v).2]) ∧ Below w.heap.size w w' := by
  obtain ⟨w1, hw1, hb1, hz1, k0, k1, k2⟩ := box_town w T.W p q T.s.length T.r.length c d
  have HT := Lib.hid ((ht.below hb1).mono (B' := w1.heap.size) (by omega))
  have HB1 := Lib.hid hb1
  clear ht hb1 hz1
  go_enter Try.func98, Try.ntmps98
  go_wp2
  clear hw1
  go_loopw [6, 7, 14] (fun a b i wr => ∃ k : Nat, i = .int .i64 k ∧ k ≤ T.r.length ∧ a = .int .i64 (stTo T u v k).1 ∧ b = .bool (stTo T u v k).2 ∧ Below w1.heap.size w1 wr) (fun _ _ i _ => T.r.length - (intOf i).toNat)
  case atStart => exact ⟨0, rfl, Nat.zero_le _, rfl, rfl, Below.refl _ _⟩
  case round =>
    obtain ⟨k, rfl, hk, rfl, rfl, hb⟩ := hrel
    have HB := Lib.hid hb; clear hb
    by_cases hlt : k < T.r.length
    · obtain ⟨⟨acc, is⟩, hacc⟩ : ∃ y, stTo T u v k = y := ⟨_, rfl⟩
      obtain ⟨b, o, rfl, hbl, hsn⟩ := (HT.out.below HB.out).r (by omega)
      have e0 := hsn.c0 k hlt
      have e1 := hsn.c1 k hlt
      have e2 := hsn.c2 k hlt
      have e3 := hsn.c3 k hlt
      obtain ⟨⟨s0, s1, s2, s3⟩, hs0⟩ : ∃ s, T.r[k] = s := ⟨_, rfl⟩
      rw [hs0] at e0 e1 e2 e3
      dsimp only at e0 e1 e2 e3
      have hst : stTo T u v (k + 1) = match lvs ⟨s0, s1, s2, s3⟩ u v with
        | none => (acc, is)
        | some x => upd (acc, is) x := by simp only [stTo, List.getElem?_eq_getElem hlt, hs0, hacc]
      rw [hacc]
      clear hsn hs0 hacc
      by_cases h1 : s0 = u ∧ s1 = v
      · have b1 : (s0 == u) = true := by simp [h1.1]
        have b2 : (s1 == v) = true := by simp [h1.2]
        have hl : lvs ⟨s0, s1, s2, s3⟩ u v = some s3 := by simp [lvs, h1.1, h1.2]
        rw [hl] at hst
        cases is with
        | false =>
          have HS : Hid (stTo T u v (k + 1) = (s3, true)) := by show _ = _; rw [hst]; simp [upd]
          clear hst h1 hl
          go_wp2
          go_roundw
          case rel => exact ⟨k + 1, by go_num, hlt, by rw [HS.out], by rw [HS.out], bA HB.out _⟩
          case measure => simp [intOf]; omega
        | true =>
          by_cases hc : s3 < acc
          · have HS : Hid (stTo T u v (k + 1) = (s3, true)) := by show _ = _; rw [hst]; simp [upd, hc]
            have d1 : decide (s3 < acc) = true := decide_eq_true hc
            clear hst h1 hl
            go_wp2
            go_roundw
            case rel => exact ⟨k + 1, by go_num, hlt, by rw [HS.out], by rw [HS.out], bA HB.out _⟩
            case measure => simp [intOf]; omega
          · have HS : Hid (stTo T u v (k + 1) = (acc, true)) := by show _ = _; rw [hst]; simp [upd, hc]
            have d1 : decide (s3 < acc) = false := decide_eq_false hc
            clear hst h1 hl
            go_wp2
            go_roundw
            case rel => exact ⟨k + 1, by go_num, hlt, by rw [HS.out], by rw [HS.out], bA HB.out _⟩
            case measure => simp [intOf]; omega
      · by_cases h2 : s0 = v ∧ s1 = u
        · have hl : lvs ⟨s0, s1, s2, s3⟩ u v = some (wrap64 (-s2)) := by simp [lvs, if_neg h1, h2.1, h2.2]; intro e1 e2; exact absurd ⟨h2.1.trans e1, h2.2.trans e2⟩ h1
          rw [hl] at hst
          have hfirst : ((s0 == u) = false) ∨ ((s0 == u) = true ∧ (s1 == v) = false) := by
            by_cases e : s0 = u
            · exact .inr ⟨by simp [e], by rw [beq_eq_false_iff_ne]; exact fun e2 => h1 ⟨e, e2⟩⟩
            · exact .inl (by simp [e])
          have b3 : (s0 == v) = true := by simp [h2.1]
          have b4 : (s1 == u) = true := by simp [h2.2]
          obtain ⟨x, hx⟩ : ∃ x, wrap64 (-s2) = x := ⟨_, rfl⟩
          rw [hx] at hst
          cases is with
          | false =>
            have HS : Hid (stTo T u v (k + 1) = (x, true)) := by show _ = _; rw [hst]; simp [upd]
            clear hst h1 h2 hl
            rcases hfirst with b1 | ⟨b1, b2⟩
            all_goals
              go_wp2
              go_roundw
              case rel => exact ⟨k + 1, by go_num, hlt, by rw [HS.out, ← hx], by rw [HS.out], bA HB.out _⟩
              case measure => simp [intOf]; omega
          | true =>
            by_cases hc : x < acc
            · have HS : Hid (stTo T u v (k + 1) = (x, true)) := by show _ = _; rw [hst]; simp [upd, hc]
              have d1 : decide (x < acc) = true := decide_eq_true hc
              clear hst h1 h2 hl
              rcases hfirst with b1 | ⟨b1, b2⟩
              all_goals
                go_wp2
                go_roundw
                case rel => exact ⟨k + 1, by go_num, hlt, by rw [HS.out, ← hx], by rw [HS.out], bA HB.out _⟩
                case measure => simp [intOf]; omega
            · have HS : Hid (stTo T u v (k + 1) = (acc, true)) := by show _ = _; rw [hst]; simp [upd, hc]
              have d1 : decide (x < acc) = false := decide_eq_false hc
              clear hst h1 h2 hl
              rcases hfirst with b1 | ⟨b1, b2⟩
              all_goals
                go_wp2
                go_roundw
                case rel => exact ⟨k + 1, by go_num, hlt, by rw [HS.out], by rw [HS.out], bA HB.out _⟩
                case measure => simp [intOf]; omega
        · have hl : lvs ⟨s0, s1, s2, s3⟩ u v = none := by simp only [lvs]; rw [if_neg h1, if_neg h2]
          rw [hl] at hst
          have hfirst : ((s0 == u) = false) ∨ ((s0 == u) = true ∧ (s1 == v) = false) := by
            by_cases e : s0 = u
            · exact .inr ⟨by simp [e], by rw [beq_eq_false_iff_ne]; exact fun e2 => h1 ⟨e, e2⟩⟩
            · exact .inl (by simp [e])
          have hsecond : ((s0 == v) = false) ∨ ((s0 == v) = true ∧ (s1 == u) = false) := by
            by_cases e : s0 = v
            · exact .inr ⟨by simp [e], by rw [beq_eq_false_iff_ne]; exact fun e2 => h2 ⟨e, e2⟩⟩
            · exact .inl (by simp [e])
          have HS := Lib.hid hst
          clear hst h1 h2 hl
          rcases hfirst with b1 | ⟨b1, b2⟩ <;> rcases hsecond with b3 | ⟨b3, b4⟩
          all_goals
            go_wp2
            go_roundw
            case rel => exact ⟨k + 1, by go_num, hlt, by rw [HS.out], by rw [HS.out], bA HB.out _⟩
            case measure => simp [intOf]; omega
    · obtain rfl : k = T.r.length := by omega
      go_wp2
      go_ret2
      exact ⟨rfl, bT HB1.out HB.out⟩
end Go.Proofs.Ytmfbfcknnjbabaa
