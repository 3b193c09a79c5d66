/- The contracts of Huge, valid, Check of levels, for any town. -/
import Derived.Test.YtmfbfcknnjbabaaA3
set_option linter.unusedSimpArgs false
set_option linter.unusedVariables false
namespace Go.Proofs.Ytmfbfcknnjbabaa
open Go.RowKit

theorem isWellP_ex (W n : Int) (s r : Value) (w : World) :
    Calls Try.prog 87 #[.agg #[.int .i64 W, s, r], .int .i64 n] w fun e w' => e = .returned (.bool (within n 0 (W-1))) ∧ w.alloc (.cells #[.int .i64 W, s, r] 25) = w' := by
  go_enter Try.func87, Try.ntmps87
  go_wp2
  · have h : 0 ≤ n := by assumption
    go_ret
    exact ⟨ret_b (by simp [within, h]; omega), rfl⟩
  · have h : n < 0 := by assumption
    go_ret
    exact ⟨ret_b (by simp [within]; omega), rfl⟩

def spanB (lo hi least : Int) : Bool := decide (least ≤ lo ∧ lo ≤ hi ∧ hi ≤ 99)
theorem isSpan_ex (lo hi least : Int) (w : World) :
    Calls Try.prog 88 #[.int .i64 lo, .int .i64 hi, .int .i64 least] w fun e w' => e = .returned (.bool (spanB lo hi least)) ∧ w = w' := by
  by_cases h1 : least ≤ lo
  · by_cases h2 : lo ≤ hi
    · go_enter Try.func88, Try.ntmps88
      go_wp2
      go_ret
      exact ⟨ret_b (by simp [spanB, h1, h2]), rfl⟩
    · go_enter Try.func88, Try.ntmps88
      go_wp2
      go_ret
      exact ⟨ret_b (by simp [spanB]; omega), rfl⟩
  · go_enter Try.func88, Try.ntmps88
    go_wp2
    go_ret
    exact ⟨ret_b (by simp [spanB]; omega), rfl⟩

theorem sOk_eq (W : Int) (x : Snd) : sOk W x = (within x.well 0 (W-1) && spanB x.low x.high 0) := by
  rw [Bool.eq_iff_iff]; simp [sOk, within, spanB]; omega
theorem rOk_eq (W : Int) (x : Slp) : rOk W x = (within x.a 0 (W-1) && (within x.b 0 (W-1) && (!(x.a == x.b) && spanB x.low x.high (-99)))) := by
  rw [Bool.eq_iff_iff]; simp [rOk, within, spanB]; omega

theorem huge_any (W : Int) (p q : Option Addr) (m n c d : Nat) (w : World) :
    Calls Try.prog 15 #[.agg #[.int .i64 W, .slice p m c, .slice q n d]] w fun e w' => e = .returned (.bool (decide (40 < m ∨ 40 < n))) ∧ Below w.heap.size w w' := by
  by_cases h1 : 40 < m
  · have d1 : decide ((40 : Int) < (m : Int)) = true := decide_eq_true (by omega)
    go_enter Try.func15, Try.ntmps15
    go_wp2
    go_ret
    exact ⟨ret_b (by simp [h1]), bA (Below.refl _ _) _⟩
  · have d1 : decide ((40 : Int) < (m : Int)) = false := decide_eq_false (by omega)
    go_enter Try.func15, Try.ntmps15
    go_wp2
    go_ret
    exact ⟨ret_b (by rw [Bool.eq_iff_iff]; simp; omega), bA (Below.refl _ _) _⟩

theorem vk_s {T : Town} (h : T.s.all (sOk T.W) = false) : false = T.ok := by simp [Town.ok, h]
theorem vk_r {T : Town} (h : T.r.all (rOk T.W) = false) : false = T.ok := by simp [Town.ok, h]
theorem vk_t {T : Town} (h0 : within T.W 0 6 = true) (h1 : T.s.length ≤ 8) (h2 : T.r.length ≤ 8) (h3 : T.s.all (sOk T.W) = true) (h4 : T.r.all (rOk T.W) = true) : true = T.ok := by simp [Town.ok, h0, h1, h2, h3, h4]

set_option maxHeartbeats 400000 in
theorem valid_any (T : Town) (p q : Option Addr) (c d : Nat) (w : World) (hs : T.s.length ≤ 1000000) (hr : T.r.length ≤ 1000000) (ht : TownIn w w.heap.size T p q) :
    Calls Try.prog 56 #[.agg #[.int .i64 T.W, .slice p T.s.length c, .slice q T.r.length d]] w fun e w' => e = .returned (.bool T.ok) ∧ Below w.heap.size w w' := by
  have HT := Lib.hid ht; clear ht
  by_cases hw2 : 0 ≤ T.W
  · by_cases hw3 : T.W ≤ 6
    · have hw1 : within T.W 0 6 = true := within_tt hw2 hw3
      have W1 := Lib.hid hw1; clear hw1
      by_cases h1 : T.s.length ≤ 8
      · by_cases h2 : T.r.length ≤ 8
        · have d1 : decide ((8 : Int) < (T.s.length : Int)) = false := decide_eq_false (by omega)
          have d2 : decide ((8 : Int) < (T.r.length : Int)) = false := decide_eq_false (by omega)
          have d3 : decide (T.W < 0) = false := decide_eq_false (by omega)
          have d4 : decide (6 < T.W) = false := decide_eq_false (by omega)
          go_enter Try.func56, Try.ntmps56
          go_wp2
          obtain ⟨w1, hw1'⟩ : ∃ w1, w1 = w.alloc (Obj.cells #[Value.int IntKind.i64 T.W, Value.slice p T.s.length c, Value.slice q T.r.length d] 25) := ⟨_, rfl⟩
          rw [← hw1']
          have HB : Below w.heap.size w w1 := by rw [hw1']; exact (Below.refl _ _).alloc (Nat.le_refl _) _
          have hsz : w1.heap.size = w.heap.size + 1 := by rw [hw1']; simp
          have k0 : w1.cell? ⟨w.heap.size, 0, none⟩ = some (.int .i64 T.W) := by rw [hw1']; go_simp
          have k1 : w1.cell? ⟨w.heap.size, 1, none⟩ = some (.slice p T.s.length c) := by rw [hw1']; go_simp
          have k2 : w1.cell? ⟨w.heap.size, 2, none⟩ = some (.slice q T.r.length d) := by rw [hw1']; go_simp
          clear hw1'
          have HT1 := Lib.hid ((HT.out.below HB).mono (B' := w1.heap.size) (by omega)); clear HT
          have HB1 := Lib.hid HB; clear HB
          have HS := Lib.hid hsz; clear hsz
          go_loopw [28] (fun i wr => ∃ k : Nat, i = .int .i64 k ∧ k ≤ T.s.length ∧ SPre T.W T.s k ∧ Below w1.heap.size w1 wr) (fun i _ => T.s.length - (intOf i).toNat)
          case atStart => exact ⟨0, rfl, Nat.zero_le _, rfl, Below.refl _ _⟩
          case round =>
            obtain ⟨k, rfl, hk, hp, hb⟩ := hrel
            have HP := Lib.hid hp; clear hp
            have HBB := Lib.hid hb; clear hb
            have hz := HS.out
            have g0 := (HBB.out.cell (p := ⟨w.heap.size, 0, none⟩) (by simp; omega)).trans k0
            have g1 := (HBB.out.cell (p := ⟨w.heap.size, 1, none⟩) (by simp; omega)).trans k1
            have g2 := (HBB.out.cell (p := ⟨w.heap.size, 2, none⟩) (by simp; omega)).trans k2
            have hz2 : w.heap.size < wr.heap.size := by have := HBB.out.size; omega
            clear hz
            by_cases hlt : k < T.s.length
            · obtain ⟨b, o, rfl, hbl, hsn⟩ := (HT1.out.below HBB.out).s (by omega)
              have e0 := hsn.c0 k hlt
              have e1 := hsn.c1 k hlt
              have e2 := hsn.c2 k hlt
              clear hsn
              go_wp2_with (first | (go_at_call 88; refine (isSpan_ex _ _ _ _).mono ?_; rintro e w' ⟨rfl, rfl⟩) | (go_at_call 87; refine (isWellP_ex _ _ _ _ _).mono ?_; rintro e w' ⟨rfl, rfl⟩))
              all_goals first
                | (go_ret; have f : sOk T.W T.s[k] = false := by rw [sOk_eq]; simp_all
                   exact ⟨ret_b (vk_s (sBad hlt f)), by repeat (first | exact bT HB1.out HBB.out | refine bA ?_ _)⟩)
                | (have f : sOk T.W T.s[k] = true := by rw [sOk_eq]; simp_all
                   go_roundw
                   case rel => exact ⟨k + 1, by go_num, hlt, sPre_succ HP.out hlt f, by repeat (first | exact HBB.out | refine bA ?_ _)⟩
                   case measure => simp [intOf]; omega)
            · have hall := sPre_all HP.out (by omega)
              have HA := Lib.hid hall; clear hall HP
              have HB2 := Lib.hid (bT HB1.out HBB.out); clear HB1
              go_wp2
              have HT2 := Lib.hid ((HT1.out.below HBB.out).mono (B' := wr.heap.size) HBB.out.size); clear HT1 HBB
              obtain ⟨w2, rfl⟩ : ∃ w2, w2 = wr := ⟨_, rfl⟩
              go_loopw [49] (fun i wr => ∃ k : Nat, i = .int .i64 k ∧ k ≤ T.r.length ∧ RPre T.W T.r k ∧ Below w2.heap.size w2 wr) (fun i _ => T.r.length - (intOf i).toNat)
              case atStart => exact ⟨0, rfl, Nat.zero_le _, rfl, Below.refl _ _⟩
              case round =>
                clear hk hlt
                obtain ⟨k, rfl, hk, hp, hb⟩ := hrel
                have HP := Lib.hid hp; clear hp
                have HBB := Lib.hid hb; clear hb
                have hz3 : w.heap.size < wr.heap.size := by have := HBB.out.size; omega
                have j0 := (HBB.out.cell (p := ⟨w.heap.size, 0, none⟩) hz2).trans g0
                have j1 := (HBB.out.cell (p := ⟨w.heap.size, 1, none⟩) hz2).trans g1
                have j2 := (HBB.out.cell (p := ⟨w.heap.size, 2, none⟩) hz2).trans g2
                clear g0 g1 g2 k0 k1 k2
                by_cases hlt : k < T.r.length
                · obtain ⟨b, o, rfl, hbl, hsn⟩ := (HT2.out.below HBB.out).r (by omega)
                  have e0 := hsn.c0 k hlt
                  have e1 := hsn.c1 k hlt
                  have e2 := hsn.c2 k hlt
                  have e3 := hsn.c3 k hlt
                  clear hsn
                  go_wp2_with (first | (go_at_call 88; refine (isSpan_ex _ _ _ _).mono ?_; rintro e w' ⟨rfl, rfl⟩) | (go_at_call 87; refine (isWellP_ex _ _ _ _ _).mono ?_; rintro e w' ⟨rfl, rfl⟩))
                  all_goals first
                    | (go_ret; have f : rOk T.W T.r[k] = false := by rw [rOk_eq]; simp_all
                       exact ⟨ret_b (vk_r (rBad hlt f)), by repeat (first | exact bT HB2.out HBB.out | refine bA ?_ _)⟩)
                    | (have f : rOk T.W T.r[k] = true := by rw [rOk_eq]; simp_all
                       go_roundw
                       case rel => exact ⟨k + 1, by go_num, hlt, rPre_succ HP.out hlt f, by repeat (first | exact HBB.out | refine bA ?_ _)⟩
                       case measure => simp [intOf]; omega)
                · have hall := rPre_all HP.out (by omega)
                  go_wp2
                  go_ret
                  exact ⟨ret_b (vk_t W1.out h1 h2 HA.out hall), bT HB2.out HBB.out⟩
        · have d1 : decide ((8 : Int) < (T.s.length : Int)) = false := decide_eq_false (by omega)
          have d2 : decide ((8 : Int) < (T.r.length : Int)) = true := decide_eq_true (by omega)
          go_enter Try.func56, Try.ntmps56
          go_wp2
          go_ret
          exact ⟨ret_b (by simp [Town.ok, h2]), bA (Below.refl _ _) _⟩
      · have d1 : decide ((8 : Int) < (T.s.length : Int)) = true := decide_eq_true (by omega)
        go_enter Try.func56, Try.ntmps56
        go_wp2
        go_ret
        exact ⟨ret_b (by simp [Town.ok, h1]), bA (Below.refl _ _) _⟩
    · have hw1 : within T.W 0 6 = false := by simp [within]; omega
      go_enter Try.func56, Try.ntmps56
      go_wp2
      go_ret
      exact ⟨ret_b (by simp [Town.ok, hw1]), bA (Below.refl _ _) _⟩
  · have hw1 : within T.W 0 6 = false := by simp [within]; omega
    go_enter Try.func56, Try.ntmps56
    go_wp2
    go_ret
    exact ⟨ret_b (by simp [Town.ok, hw1]), bA (Below.refl _ _) _⟩

theorem checkP_any (T : Town) (p q : Option Addr) (c d : Nat) (w : World) (hs : T.s.length ≤ 1000000) (hr : T.r.length ≤ 1000000) (ht : TownIn w w.heap.size T p q) :
    Calls Try.prog 20 #[.agg #[.int .i64 T.W, .slice p T.s.length c, .slice q T.r.length d]] w fun e w' => e = .returned (.int .i64 (vErr T.ok)) ∧ Below w.heap.size w w' := by
  obtain ⟨w1, hw1⟩ : ∃ w1, w1 = w.alloc (Obj.cells #[Value.int IntKind.i64 T.W, Value.slice p T.s.length c, Value.slice q T.r.length d] 25) := ⟨_, rfl⟩
  have hb : Below w.heap.size w w1 := by rw [hw1]; exact bA (Below.refl _ _) _
  have hv := valid_any T p q c d w1 hs hr ((ht.below hb).mono hb.size)
  rw [hw1] at hv
  have HV := Lib.hid hv; clear hv hb hw1 w1 ht
  by_cases hok : T.ok = true
  · rw [hok]
    go_enter Try.func20, Try.ntmps20
    go_wp2_with (go_at_call 56; refine HV.out.mono ?_; rintro e w' ⟨rfl, hb⟩; have HBB := Lib.hid hb; clear hb)
    go_ret
    exact ⟨rfl, bT (bA (Below.refl _ _) _) HBB.out⟩
  · have hok := Bool.eq_false_iff.2 hok
    rw [hok]
    go_enter Try.func20, Try.ntmps20
    go_wp2_with (go_at_call 56; refine HV.out.mono ?_; rintro e w' ⟨rfl, hb⟩; have HBB := Lib.hid hb; clear hb)
    go_ret
    exact ⟨rfl, bT (bA (Below.refl _ _) _) HBB.out⟩
end Go.Proofs.Ytmfbfcknnjbabaa
