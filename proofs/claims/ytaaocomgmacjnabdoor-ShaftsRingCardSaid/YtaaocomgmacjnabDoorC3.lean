/- Shafts: falls, feet, cost of the program. -/
import Derived.Test.YtaaocomgmacjnabDoorC2

set_option linter.unusedSimpArgs false

set_option linter.unusedVariables false

namespace Go.Proofs.YtaaocomgmacjnabDoor

open Go.RowKit

def fallP (S : Shaft) (l : List Int) : Int := if S.fall l = -1 then 0 else S.fall l
def falls (S : Shaft) (l : List Int) : Bool := S.fall l != -1
theorem fallP_at {S : Shaft} {l : List Int} {k : Nat} (h : S.fall l = (k : Int)) : (k : Int) = fallP S l ∧ true = falls S l := by
  unfold fallP falls; rw [h]
  refine ⟨by rw [if_neg (by omega)], by symm; rw [bne_iff_ne]; omega⟩
theorem fallP_none {S : Shaft} {l : List Int} (h : S.fall l = -1) : (0 : Int) = fallP S l ∧ false = falls S l := by
  unfold fallP falls; rw [h]; exact ⟨by simp, by simp⟩
theorem ListIn.tail {w : World} {K : Nat} {m : List Int} {b o cm : Nat} (h : IntsAt w K b o m) (hc : m.length ≤ cm) : ListIn w K (m.drop 1) (some (if cm = 1 then ⟨b, o, none⟩ else ⟨b, o + 1, none⟩)) := fun hs => by
  simp only [List.length_drop] at hs
  rw [if_neg (by omega)]
  refine ⟨b, o + 1, rfl, h.lt, fun k hk => ?_⟩
  simp only [List.length_drop] at hk
  have := h.cell (k + 1) (by omega)
  rw [show o + 1 + k = o + (k + 1) by omega, this]
  simp [Nat.add_comm]
set_option maxRecDepth 100000 in
set_option maxHeartbeats 2000000 in
theorem fallsP_any (S : Shaft) (p q : Option Addr) (c d bx : Nat) (l : List Int) (pl : Option Addr) (cl : Nat) (w : World) (hok : S.ok = true) (hl : l.length ≤ 1000000) (hcl : l.length ≤ cl) (hst : S.stops l = true) (hx : BoxS w bx S p q c d) (hi : ShaftIn w w.heap.size S p q) (hil : ListIn w w.heap.size l pl) :
    Calls Tryd.prog 43 #[.pointer (some ⟨bx, 0, none⟩), .slice pl l.length cl] w fun e w' => e = .returned (.tuple #[.int .i64 (fallP S l), .bool (falls S l)]) ∧ Below w.heap.size w w' := by
  obtain ⟨_, h12, _⟩ := S.ok_parts hok
  have HX := Lib.hid hx; have HI := Lib.hid hi; have HIL := Lib.hid hil; have HOK := Lib.hid hok; have HST0 := Lib.hid hst
  obtain ⟨g0, g1, g2, g3, g4, g5⟩ := hx
  clear hi hil hok hst
  go_enter Tryd.func43, Tryd.ntmps43
  go_wp2
  go_loopw [1, 6, 14] (fun s r i wr => ∃ (k ri : Nat) (m : List Int) (pm : Option Addr) (cm : Nat), i = .int .i64 k ∧ k ≤ S.F.length ∧ s = .slice pm m.length cm ∧ m.length ≤ cm ∧ m.length ≤ l.length ∧ r = .int .i64 ri ∧ ri ≤ k ∧ Left l m (S.F.length : Int) k ri ∧ AllTo (S.fine l) (List.range S.F.length) k ∧ ListIn wr w.heap.size m pm ∧ Below w.heap.size w wr) (fun _ _ i _ => S.F.length - (intOf i).toNat)
  case atStart => exact ⟨0, 0, l, pl, cl, rfl, Nat.zero_le _, rfl, hcl, Nat.le_refl _, rfl, Nat.le_refl _, Left.start HST0.out, rfl, HIL.out, Below.refl _ _⟩
  case round =>
    obtain ⟨k, ri, m, pm, cm, rfl, hk, rfl, hcm, hml, rfl, hrk, hle, hp, hli, hbb⟩ := hrel
    have HP := Lib.hid hp; have HBB := Lib.hid hbb; have HLE := Lib.hid hle; have HLI := Lib.hid hli; clear hp hbb hle hli g0 g1 g2 g3 g4 g5
    by_cases hlt : k < S.F.length
    · have j1 : decide ((k : Int) < (S.F.length : Int)) = true := by simp; omega
      by_cases hm : 0 < m.length
      · have j2 : decide ((0 : Int) < (m.length : Int)) = true := by simp; omega
        obtain ⟨b, o, rfl, hc⟩ := HLI.out hm
        have e0 := hc.cell 0 hm
        rw [Nat.add_zero] at e0
        by_cases he : m[0] = (k : Int)
        · rw [he] at e0
          have j3 : ((k : Int) == (k : Int)) = true := by simp
          have HL := Lib.hid (HLE.out.hit hm he)
          have HT := Lib.hid (ListIn.tail hc hcm)
          have z1 : 1 ≤ m.length := hm
          clear hc he HLE
          have HST := fun (V : World) (hV : Below wr.heap.size wr V) => stands_any S p q c d bx k (k + 1) V HOK.out (by omega) (by omega) ((HX.out.below HBB.out).below hV) ((HI.out.bel HBB.out).bel hV)
          rw [show ((k + 1 : Nat) : Int) = (k : Int) + 1 by omega] at HST
          cases hs : S.fine l k with
          | false =>
            rw [show S.stands k (k + 1) = false from by rw [← hs]; unfold Shaft.fine; rw [HL.out.2]] at HST
            obtain ⟨hf1, hf2⟩ := fallP_at (Shaft.fall_at HP.out hlt hs)
            have HF1 := Lib.hid hf1; have HF2 := Lib.hid hf2; clear hf1 hf2 hs
            have HS := Lib.hid HST; clear HST
            go_wp2
            go_quiet (fail)
            go_wp2_with (go_at_call 61; refine (HS.out _ (by first | exact Below.refl _ _ | exact bD (Below.refl _ _) _)).mono ?_; rintro e w2 ⟨rfl, hb2⟩; go_must (have HB2 := Lib.hid hb2; clear hb2))
            all_goals
              go_ret2
              exact ⟨ret_ib HF1.out HF2.out, bT HBB.out (by first | exact HB2.out | exact bT (bD (Below.refl _ _) _) HB2.out)⟩
          | true =>
            rw [show S.stands k (k + 1) = true from by rw [← hs]; unfold Shaft.fine; rw [HL.out.2]] at HST
            have HN := Lib.hid (allTo_range HP.out hlt hs); clear hs
            have HS := Lib.hid HST; clear HST
            go_wp2
            go_quiet (fail)
            go_wp2_with (go_at_call 61; refine (HS.out _ (by first | exact Below.refl _ _ | exact bD (Below.refl _ _) _)).mono ?_; rintro e w2 ⟨rfl, hb2⟩; go_must (have HB2 := Lib.hid hb2; clear hb2))
            go_roundw
            case rel => exact ⟨k + 1, k, m.drop 1, _, cm - 1, by go_num, hlt, by simp; split <;> rfl, by simp; omega, by simp; omega, rfl, by omega, HL.out.1, HN.out, HT.out.below (by first | exact HB2.out.mono HBB.out.size | exact (bT (bD (Below.refl _ _) _) HB2.out).mono HBB.out.size), bT HBB.out (by first | exact HB2.out | exact bT (bD (Below.refl _ _) _) HB2.out)⟩
            case measure => simp [intOf]; omega
        · have j3 : (m[0] == (k : Int)) = false := by simpa using he
          have HL := Lib.hid (HLE.out.miss (fun _ => he))
          clear hc he HLE
          have HST := fun (V : World) (hV : Below wr.heap.size wr V) => stands_any S p q c d bx ri (k + 1) V HOK.out (by omega) (by omega) ((HX.out.below HBB.out).below hV) ((HI.out.bel HBB.out).bel hV)
          rw [show ((k + 1 : Nat) : Int) = (k : Int) + 1 by omega] at HST
          cases hs : S.fine l k with
          | false =>
            rw [show S.stands ri (k + 1) = false from by rw [← hs]; unfold Shaft.fine; rw [HL.out.2]] at HST
            obtain ⟨hf1, hf2⟩ := fallP_at (Shaft.fall_at HP.out hlt hs)
            have HF1 := Lib.hid hf1; have HF2 := Lib.hid hf2; clear hf1 hf2 hs
            have HS := Lib.hid HST; clear HST
            go_wp2_with (go_at_call 61; refine (HS.out _ (by first | exact Below.refl _ _ | exact bD (Below.refl _ _) _)).mono ?_; rintro e w2 ⟨rfl, hb2⟩; go_must (have HB2 := Lib.hid hb2; clear hb2))
            all_goals
              go_ret2
              exact ⟨ret_ib HF1.out HF2.out, bT HBB.out (by first | exact HB2.out | exact bT (bD (Below.refl _ _) _) HB2.out)⟩
          | true =>
            rw [show S.stands ri (k + 1) = true from by rw [← hs]; unfold Shaft.fine; rw [HL.out.2]] at HST
            have HN := Lib.hid (allTo_range HP.out hlt hs); clear hs
            have HS := Lib.hid HST; clear HST
            go_wp2_with (go_at_call 61; refine (HS.out _ (by first | exact Below.refl _ _ | exact bD (Below.refl _ _) _)).mono ?_; rintro e w2 ⟨rfl, hb2⟩; go_must (have HB2 := Lib.hid hb2; clear hb2))
            go_roundw
            case rel => exact ⟨k + 1, ri, m, _, cm, by go_num, hlt, rfl, hcm, hml, rfl, by omega, HL.out.1, HN.out, HLI.out.below (HB2.out.mono HBB.out.size), bT HBB.out (by first | exact HB2.out | exact bT (bD (Below.refl _ _) _) HB2.out)⟩
            case measure => simp [intOf]; omega
      · have j2 : decide ((0 : Int) < (m.length : Int)) = false := decide_eq_false (by omega)
        have HL := Lib.hid (HLE.out.miss (fun h => absurd h hm))
        clear HLE
        have HST := fun (V : World) (hV : Below wr.heap.size wr V) => stands_any S p q c d bx ri (k + 1) V HOK.out (by omega) (by omega) ((HX.out.below HBB.out).below hV) ((HI.out.bel HBB.out).bel hV)
        rw [show ((k + 1 : Nat) : Int) = (k : Int) + 1 by omega] at HST
        cases hs : S.fine l k with
        | false =>
          rw [show S.stands ri (k + 1) = false from by rw [← hs]; unfold Shaft.fine; rw [HL.out.2]] at HST
          obtain ⟨hf1, hf2⟩ := fallP_at (Shaft.fall_at HP.out hlt hs)
          have HF1 := Lib.hid hf1; have HF2 := Lib.hid hf2; clear hf1 hf2 hs
          have HS := Lib.hid HST; clear HST
          go_wp2_with (go_at_call 61; refine (HS.out _ (by first | exact Below.refl _ _ | exact bD (Below.refl _ _) _)).mono ?_; rintro e w2 ⟨rfl, hb2⟩; go_must (have HB2 := Lib.hid hb2; clear hb2))
          all_goals
            go_ret2
            exact ⟨ret_ib HF1.out HF2.out, bT HBB.out (by first | exact HB2.out | exact bT (bD (Below.refl _ _) _) HB2.out)⟩
        | true =>
          rw [show S.stands ri (k + 1) = true from by rw [← hs]; unfold Shaft.fine; rw [HL.out.2]] at HST
          have HN := Lib.hid (allTo_range HP.out hlt hs); clear hs
          have HS := Lib.hid HST; clear HST
          go_wp2_with (go_at_call 61; refine (HS.out _ (by first | exact Below.refl _ _ | exact bD (Below.refl _ _) _)).mono ?_; rintro e w2 ⟨rfl, hb2⟩; go_must (have HB2 := Lib.hid hb2; clear hb2))
          go_roundw
          case rel => exact ⟨k + 1, ri, m, _, cm, by go_num, hlt, rfl, hcm, hml, rfl, by omega, HL.out.1, HN.out, HLI.out.below (HB2.out.mono HBB.out.size), bT HBB.out (by first | exact HB2.out | exact bT (bD (Below.refl _ _) _) HB2.out)⟩
          case measure => simp [intOf]; omega
    · have j1 : decide ((k : Int) < (S.F.length : Int)) = false := by simp; omega
      obtain ⟨hf1, hf2⟩ := fallP_none (Shaft.fall_none HP.out (by omega))
      have HF1 := Lib.hid hf1; have HF2 := Lib.hid hf2; clear hf1 hf2
      go_wp2
      go_ret2
      exact ⟨ret_ib HF1.out HF2.out, HBB.out⟩

set_option maxRecDepth 100000 in
set_option maxHeartbeats 2000000 in
theorem feet_any (S : Shaft) (p q : Option Addr) (c d bx : Nat) (w : World) (hok : S.ok = true) (hx : BoxS w bx S p q c d) (hi : ShaftIn w w.heap.size S p q) :
    Calls Tryd.prog 64 #[.pointer (some ⟨bx, 0, none⟩)] w fun e w' => e = .returned (.tuple #[.int .i64 (feetP S S.F.length), .int .i64 (feetH S S.F.length)]) ∧ Below w.heap.size w w' := by
  obtain ⟨_, h12, _⟩ := S.ok_parts hok
  have HX := Lib.hid hx; have HI := Lib.hid hi; have HOK := Lib.hid hok
  obtain ⟨g0, g1, g2, g3, g4, g5⟩ := hx
  clear hi hok
  go_enter Tryd.func64, Tryd.ntmps64
  go_wp2
  go_loopw [2, 3, 13] (fun a b i wr => ∃ k : Nat, i = .int .i64 k ∧ k ≤ S.F.length ∧ a = .int .i64 (feetP S k) ∧ b = .int .i64 (feetH S k) ∧ Below w.heap.size w wr) (fun _ _ i _ => S.F.length - (intOf i).toNat)
  case atStart => exact ⟨0, rfl, Nat.zero_le _, rfl, rfl, Below.refl _ _⟩
  case round =>
    obtain ⟨k, rfl, hk, rfl, rfl, hbb⟩ := hrel
    have HBB := Lib.hid hbb; clear hbb g0 g1 g2 g3 g4 g5
    by_cases hlt : k < S.F.length
    · have j1 : decide ((k : Int) < (S.F.length : Int)) = true := by simp; omega
      have HF := Lib.hid (footP_any S p q c d k bx wr HOK.out hlt (HX.out.below HBB.out) (HI.out.bel HBB.out))
      obtain ⟨a0, a1⟩ := feetP_bd HOK.out (k := k) (by omega)
      obtain ⟨b0, b1⟩ := feetH_bd HOK.out (k := k) (by omega)
      obtain ⟨c0, c1⟩ := feetP_bd HOK.out (k := k + 1) (by omega)
      obtain ⟨d0, d1⟩ := feetH_bd HOK.out (k := k + 1) (by omega)
      have W1 : IntKind.i64.wrap (feetP S k + S.price k) = feetP S (k + 1) := IntWalk.i64_in _ (by rw [show feetP S k + S.price k = feetP S (k + 1) from rfl]; omega)
      have W2 : IntKind.i64.wrap (feetH S k + (S.rock k).h) = feetH S (k + 1) := IntWalk.i64_in _ (by rw [show feetH S k + (S.rock k).h = feetH S (k + 1) from rfl]; omega)
      go_wp2_with (go_at_call 37; refine HF.out.mono ?_; rintro e w2 ⟨rfl, hb2⟩; go_must (have HB2 := Lib.hid hb2; clear hb2))
      try go_quiet (fail)
      try go_wp2
      go_roundw
      case rel => exact ⟨k + 1, by go_num, hlt, rfl, rfl, bT HBB.out (by first | exact HB2.out | exact bD HB2.out _)⟩
      case measure => simp [intOf]; omega
    · have j1 : decide ((k : Int) < (S.F.length : Int)) = false := by simp; omega
      obtain rfl : k = S.F.length := by omega
      go_wp2
      go_ret2
      exact ⟨rfl, HBB.out⟩

set_option maxRecDepth 100000 in
set_option maxHeartbeats 2000000 in
theorem cost_any (S : Shaft) (p q : Option Addr) (c d bx : Nat) (l : List Int) (pl : Option Addr) (cl : Nat) (w : World) (hok : S.ok = true) (hl : l.length ≤ 1000000) (hst : S.stops l = true) (hre : l.all S.rests = true) (hx : BoxS w bx S p q c d) (hi : ShaftIn w w.heap.size S p q) (hil : ListIn w w.heap.size l pl) :
    Calls Tryd.prog 47 #[.pointer (some ⟨bx, 0, none⟩), .slice pl l.length cl] w fun e w' => e = .returned (.tuple #[.int .i64 (S.cost l), .int .i64 (S.time l)]) ∧ Below w.heap.size w w' := by
  obtain ⟨_, h12, _, _, _, _, ⟨t0, t1⟩⟩ := S.ok_parts hok
  have HX := Lib.hid hx; have HI := Lib.hid hi; have HOK := Lib.hid hok; have HIL := Lib.hid hil; have HST := Lib.hid hst; have HRE := Lib.hid hre
  have HFT := Lib.hid (feet_any S p q c d bx w hok hx hi)
  obtain ⟨a0, a1⟩ := feetP_bd hok (Nat.le_refl S.F.length)
  obtain ⟨b0, b1⟩ := feetH_bd hok (Nat.le_refl S.F.length)
  clear hi hok hx hil hst hre
  go_enter Tryd.func47, Tryd.ntmps47
  go_wp2_with (go_at_call 64; refine HFT.out.mono ?_; rintro e w2 ⟨rfl, hb2⟩; go_must (have HB2 := Lib.hid hb2; clear hb2))
  go_loopw [4, 5, 17] (fun a b i wr => ∃ k : Nat, i = .int .i64 k ∧ k ≤ l.length ∧ a = .int .i64 (feetP S S.F.length + ringsP S l k) ∧ b = .int .i64 (feetH S S.F.length + S.T * (k : Int)) ∧ Below w.heap.size w wr) (fun _ _ i _ => l.length - (intOf i).toNat)
  case atStart => exact ⟨0, rfl, Nat.zero_le _, by simp [ringsP], by simp, HB2.out⟩
  case round =>
    obtain ⟨k, rfl, hk, rfl, rfl, hbb⟩ := hrel
    have HBB := Lib.hid hbb; clear hbb
    by_cases hlt : k < l.length
    · have j1 : decide ((k : Int) < (l.length : Int)) = true := by simp; omega
      obtain ⟨b, o, rfl, hc⟩ := HIL.out.bel HBB.out (by omega)
      have e0 := hc.cell k hlt
      obtain ⟨s0, s1⟩ := asc_at HST.out hlt
      have HRG := ringP_any S p q c d bx l[k] wr HOK.out s0 s1 (HX.out.below HBB.out) (HI.out.bel HBB.out)
      have hrs := all_at HRE.out hlt
      rw [show ringP S l[k] = S.ringV l[k] from by unfold ringP; rw [if_pos hrs]] at HRG
      have HR := Lib.hid HRG
      obtain ⟨c0, c1⟩ := ringsP_bd HOK.out HST.out (k := k) (by omega)
      obtain ⟨d0, d1⟩ := ringsP_bd HOK.out HST.out (k := k + 1) (by omega)
      rw [ringsP_succ hlt] at d0 d1
      have hm0 : 0 ≤ S.T * (k : Int) := Int.mul_nonneg t0 (by omega)
      have hm1 : S.T * (k : Int) ≤ 9 * (k : Int) := Int.mul_le_mul_of_nonneg_right t1 (by omega)
      have W1 : IntKind.i64.wrap (feetP S S.F.length + ringsP S l k + S.ringV l[k]) = feetP S S.F.length + ringsP S l (k + 1) := by rw [ringsP_succ hlt, ← Int.add_assoc]; exact IntWalk.i64_in _ (by omega)
      have W2 : IntKind.i64.wrap (feetH S S.F.length + S.T * (k : Int) + S.T) = feetH S S.F.length + S.T * ((k + 1 : Nat) : Int) := by
        rw [show S.T * ((k + 1 : Nat) : Int) = S.T * (k : Int) + S.T from by rw [Int.natCast_add, Int.mul_add]; simp, ← Int.add_assoc]; exact IntWalk.i64_in _ (by omega)
      clear hc HRG hrs
      go_wp2_with (go_at_call 63; refine HR.out.mono ?_; rintro e w3 ⟨rfl, hb3⟩; go_must (have h3 := (HX.out.below HBB.out).below hb3; obtain ⟨g0, g1, g2, g3, g4, g5⟩ := h3; have HB3 := Lib.hid (bT HBB.out hb3); clear hb3))
      go_quiet (fail)
      go_wp2
      go_roundw
      case rel => exact ⟨k + 1, by go_num, hlt, rfl, rfl, by first | exact HB3.out | exact bD HB3.out _⟩
      case measure => simp [intOf]; omega
    · have j1 : decide ((k : Int) < (l.length : Int)) = false := by simp; omega
      obtain rfl : k = l.length := by omega
      go_wp2
      go_ret2
      exact ⟨rfl, HBB.out⟩
end Go.Proofs.YtaaocomgmacjnabDoor
