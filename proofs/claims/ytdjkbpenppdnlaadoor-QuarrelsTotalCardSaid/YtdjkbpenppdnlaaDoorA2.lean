/- Towns with worlds: boxes; Check of the specification. -/
import Derived.Test.YtdjkbpenppdnlaaDoorA1

set_option linter.unusedSimpArgs false

set_option linter.unusedVariables false

namespace Go.Proofs.YtdjkbpenppdnlaaDoor

open Go.RowKit

theorem box_ft (w : World) (a b c d e : Int) :
    ∃ (w1 : World) (x : Ext w1), w.alloc (Obj.cells #[Value.int .i64 a, Value.int .i64 b, Value.int .i64 c, Value.int .i64 d, Value.int .i64 e] 72) = x.v ∧ Below w.heap.size w w1 ∧ w1.heap.size = w.heap.size + 1 ∧
      (∀ x : Ext w1, x.v.cell? ⟨w.heap.size, 0, none⟩ = some (Value.int .i64 a)) ∧
      (∀ x : Ext w1, x.v.cell? ⟨w.heap.size, 1, none⟩ = some (Value.int .i64 b)) ∧
      (∀ x : Ext w1, x.v.cell? ⟨w.heap.size, 2, none⟩ = some (Value.int .i64 c)) ∧
      (∀ x : Ext w1, x.v.cell? ⟨w.heap.size, 3, none⟩ = some (Value.int .i64 d)) ∧
      (∀ x : Ext w1, x.v.cell? ⟨w.heap.size, 4, none⟩ = some (Value.int .i64 e)) ∧
      (∀ (x : Ext w1) i, x.v.frozen? ⟨w.heap.size, i, none⟩ = false) := by
  have h0 : (w.alloc (Obj.cells #[Value.int .i64 a, Value.int .i64 b, Value.int .i64 c, Value.int .i64 d, Value.int .i64 e] 72)).cell? ⟨w.heap.size, 0, none⟩ = some (Value.int .i64 a) := by go_simp
  have h1 : (w.alloc (Obj.cells #[Value.int .i64 a, Value.int .i64 b, Value.int .i64 c, Value.int .i64 d, Value.int .i64 e] 72)).cell? ⟨w.heap.size, 1, none⟩ = some (Value.int .i64 b) := by go_simp
  have h2 : (w.alloc (Obj.cells #[Value.int .i64 a, Value.int .i64 b, Value.int .i64 c, Value.int .i64 d, Value.int .i64 e] 72)).cell? ⟨w.heap.size, 2, none⟩ = some (Value.int .i64 c) := by go_simp
  have h3 : (w.alloc (Obj.cells #[Value.int .i64 a, Value.int .i64 b, Value.int .i64 c, Value.int .i64 d, Value.int .i64 e] 72)).cell? ⟨w.heap.size, 3, none⟩ = some (Value.int .i64 d) := by go_simp
  have h4 : (w.alloc (Obj.cells #[Value.int .i64 a, Value.int .i64 b, Value.int .i64 c, Value.int .i64 d, Value.int .i64 e] 72)).cell? ⟨w.heap.size, 4, none⟩ = some (Value.int .i64 e) := by go_simp
  have hf : ∀ i, (w.alloc (Obj.cells #[Value.int .i64 a, Value.int .i64 b, Value.int .i64 c, Value.int .i64 d, Value.int .i64 e] 72)).frozen? ⟨w.heap.size, i, none⟩ = false := fun i => by go_simp
  exact ⟨_, ⟨_, Below.refl _ _⟩, rfl, bA (Below.refl _ _) _, by simp, fun x => (x.b.cell (p := ⟨w.heap.size, 0, none⟩) (by simp)).trans h0, fun x => (x.b.cell (p := ⟨w.heap.size, 1, none⟩) (by simp)).trans h1, fun x => (x.b.cell (p := ⟨w.heap.size, 2, none⟩) (by simp)).trans h2, fun x => (x.b.cell (p := ⟨w.heap.size, 3, none⟩) (by simp)).trans h3, fun x => (x.b.cell (p := ⟨w.heap.size, 4, none⟩) (by simp)).trans h4, fun x i => (x.b.frozen (p := ⟨w.heap.size, i, none⟩) (by simp)).trans (hf i)⟩
theorem box_wd (w : World) (p : Option Addr) (l c : Nat) :
    ∃ (w1 : World) (x : Ext w1), w.alloc (Obj.cells #[Value.slice p l c] 83) = x.v ∧ Below w.heap.size w w1 ∧ w1.heap.size = w.heap.size + 1 ∧
      (∀ x : Ext w1, x.v.cell? ⟨w.heap.size, 0, none⟩ = some (Value.slice p l c)) ∧
      (∀ (x : Ext w1) i, x.v.frozen? ⟨w.heap.size, i, none⟩ = false) := by
  have h0 : (w.alloc (Obj.cells #[Value.slice p l c] 83)).cell? ⟨w.heap.size, 0, none⟩ = some (Value.slice p l c) := by go_simp
  have hf : ∀ i, (w.alloc (Obj.cells #[Value.slice p l c] 83)).frozen? ⟨w.heap.size, i, none⟩ = false := fun i => by go_simp
  exact ⟨_, ⟨_, Below.refl _ _⟩, rfl, bA (Below.refl _ _) _, by simp, fun x => (x.b.cell (p := ⟨w.heap.size, 0, none⟩) (by simp)).trans h0, fun x i => (x.b.frozen (p := ⟨w.heap.size, i, none⟩) (by simp)).trans (hf i)⟩
theorem fact_cells {w : World} {T : Tn} {q o n k : Nat} (hc : ∀ j, j < n * 5 → w.cell? ⟨q, o + j, none⟩ = some (T.fact j)) (hk : k < n) :
    w.cell? ⟨q, o + k * 5, none⟩ = some (.int .i64 (T.ff k)) ∧ w.cell? ⟨q, o + k * 5 + 1, none⟩ = some (.int .i64 (T.fm k)) ∧ w.cell? ⟨q, o + k * 5 + 2, none⟩ = some (.int .i64 (T.ft k)) ∧
      w.cell? ⟨q, o + k * 5 + 3, none⟩ = some (.int .i64 (T.fl k)) ∧ w.cell? ⟨q, o + k * 5 + 4, none⟩ = some (.int .i64 (T.fh k)) := by
  have f0 : T.fact (k * 5) = .int .i64 (T.ff k) := by unfold Tn.fact; rw [if_pos (by omega), show k * 5 / 5 = k by omega]
  have f1 : T.fact (k * 5 + 1) = .int .i64 (T.fm k) := by unfold Tn.fact; rw [if_neg (by omega), if_pos (by omega), show (k * 5 + 1) / 5 = k by omega]
  have f2 : T.fact (k * 5 + 2) = .int .i64 (T.ft k) := by unfold Tn.fact; rw [if_neg (by omega), if_neg (by omega), if_pos (by omega), show (k * 5 + 2) / 5 = k by omega]
  have f3 : T.fact (k * 5 + 3) = .int .i64 (T.fl k) := by unfold Tn.fact; rw [if_neg (by omega), if_neg (by omega), if_neg (by omega), if_pos (by omega), show (k * 5 + 3) / 5 = k by omega]
  have f4 : T.fact (k * 5 + 4) = .int .i64 (T.fh k) := by unfold Tn.fact; rw [if_neg (by omega), if_neg (by omega), if_neg (by omega), if_neg (by omega), show (k * 5 + 4) / 5 = k by omega]
  refine ⟨?_, ?_, ?_, ?_, ?_⟩
  · rw [hc _ (by omega), f0]
  · rw [Nat.add_assoc, hc _ (by omega), f1]
  · rw [Nat.add_assoc, hc _ (by omega), f2]
  · rw [Nat.add_assoc, hc _ (by omega), f3]
  · rw [Nat.add_assoc, hc _ (by omega), f4]
theorem allN_succ {f : Nat → Bool} {k : Nat} (h : allN f k = true) (e : f k = true) : allN f (k + 1) = true := by unfold allN; rw [h, e]; rfl
theorem within_is {n lo hi : Int} {b : Bool} (h : within n lo hi = b) (w : World) : Calls Tryd.prog 69 #[.int .i64 n, .int .i64 lo, .int .i64 hi] w fun e w' => e = .returned (.bool b) ∧ w = w' := by subst h; exact within_any n lo hi w
theorem isFrom_is {n lo hi : Int} {b : Bool} (h : within n lo hi = b) (w : World) : Calls Tryd.prog 99 #[.int .i64 n, .int .i64 lo, .int .i64 hi] w fun e w' => e = .returned (.bool b) ∧ w = w' := by subst h; exact isFrom_any n lo hi w
theorem isWellR_is {T : Tn} {A : Adr} {k : Int} {b : Bool} (h : T.well k = b) (w : World) (hn : 0 ≤ T.wn ∧ T.wn ≤ 100) : Calls Tryd.prog 47 #[A.val T, .int .i64 k] w fun e w' => e = .returned (.bool b) ∧ Below w.heap.size w w' := by subst h; exact isWellR_any T A k w hn
set_option maxRecDepth 100000 in
set_option maxHeartbeats 4000000 in
theorem isWorldR_any (T : Tn) (A : Adr) (k : Nat) (hk : k < T.nw) (w : World) (hl : T.rl k ≤ maxLen) (hcl : ∀ i, i < T.rl k → T.cl k i ≤ maxLen) (hi : TnIn w w.heap.size T A) :
    Calls Tryd.prog 70 #[A.val T, .agg #[.slice (A.rp k) (T.rl k) (A.rc k)]] w fun e w' => e = .returned (.bool (T.worldOk k)) ∧ Below w.heap.size w w' := by
  obtain ⟨w1, x1, hw1, hb1, hz1, F0, F1, F2, _⟩ := box_tn w T.wn A.wp A.fp T.nw A.wc T.nf A.fc
  obtain ⟨w2, x, hw2, hb2, hz2, G0, _⟩ := box_wd x1.v (A.rp k) (T.rl k) (A.rc k)
  have hb12 := bT hb1 (bT x1.b hb2)
  have HB := Lib.hid hb12
  have HI : Hid (∀ y : Ext w2, TnIn y.v y.v.heap.size T A) := fun y => (hi.bel hb12).bel y.b
  replace F0 : ∀ y : Ext w2, y.v.cell? ⟨w.heap.size, 0, none⟩ = some (.int .i64 T.wn) := fun y => F0 (y.up (bT x1.b hb2))
  replace F1 : ∀ y : Ext w2, y.v.cell? ⟨w.heap.size, 1, none⟩ = some (.slice A.wp T.nw A.wc) := fun y => F1 (y.up (bT x1.b hb2))
  clear hb1 hz1 hb2 hz2 hb12 hi F1 F2
  obtain ⟨n, hn⟩ : ∃ n, T.rl k = n := ⟨_, rfl⟩
  have HN := Lib.hid hn
  rw [hn] at hl hcl G0 hw2
  have HL := Lib.hid hcl
  have HK := Lib.hid hk
  unfold Adr.val maxLen at *
  rw [hn]
  clear hn hcl hk
  by_cases he : (n : Int) = T.wn
  · have j1 : ((n : Int) != T.wn) = false := by simpa using he
    have HE := Lib.hid he; clear he
    go_enter Tryd.func70, Tryd.ntmps70
    go_wp2
    go_loopw [5] (fun i wr => ∃ q : Nat, i = .int .i64 q ∧ q ≤ n ∧ allN (T.rowOk k) q = true ∧ ∃ x : Ext w2, wr = x.v) (fun i _ => n - (intOf i).toNat)
    case atStart => exact ⟨0, rfl, Nat.zero_le _, rfl, x, rfl⟩
    case round =>
      clear hw1 hw2 x
      obtain ⟨q, rfl, hq, hp, y, rfl⟩ := hrel
      have HP := Lib.hid hp; clear hp
      by_cases hlt : q < n
      · obtain ⟨b1, o1, hr1, _, hc1⟩ := (HI.out y).rs k HK.out (by rw [HN.out]; omega)
        have HR1 := Lib.hid hr1
        rw [hr1] at G0
        have c0 : ∀ z : Ext w2, z.v.cell? ⟨b1, o1 + q, none⟩ = some (.slice (A.ip k q) (T.cl k q) (A.ic k q)) := fun z => At.cell (f := fun i => .slice (A.ip k i) (T.cl k i) (A.ic k i)) (by have := (HI.out z).rs k HK.out; rwa [hr1] at this) (by rw [HN.out]; omega)
        clear hc1 hr1
        have hcq := HL.out q hlt
        obtain ⟨m, hm⟩ : ∃ m, T.cl k q = m := ⟨_, rfl⟩
        have HM := Lib.hid hm
        rw [hm] at c0 hcq
        clear hm
        have HQ := Lib.hid (And.intro hlt hq)
        have j : decide ((q : Int) < (n : Int)) = true := by simp; omega
        by_cases he2 : (m : Int) = T.wn
        · have j2 : ((m : Int) != T.wn) = false := by simpa using he2
          have HE2 := Lib.hid he2; clear he2
          go_wp2
          refine quiet_e (by kernel_rfl) (by kernel_rfl) ?_
          repeat (first | go_big_quiet_step (fail) | quiet_step (fail))
          refine wpQuiet_nil ?_
          intro w6 hw6
          obtain ⟨y2, rfl⟩ := hw6
          go_wp2
          clear j j2 hlt hq
          go_loopw [6] (fun i wr => ∃ r : Nat, i = .int .i64 r ∧ r ≤ m ∧ allN (fun r => within (T.fa k q r) 0 9) r = true ∧ ∃ x : Ext w2, wr = x.v) (fun i _ => m - (intOf i).toNat)
          case atStart => exact ⟨0, rfl, Nat.zero_le _, rfl, y2, rfl⟩
          case round =>
            clear y2
            obtain ⟨r, rfl, hr, hp, u, rfl⟩ := hrel
            have HP2 := Lib.hid hp; clear hp
            have hlt := HQ.out.1
            by_cases hlr : r < m
            · obtain ⟨b2, o2, hr2, _, hc2⟩ := (HI.out u).is k HK.out q (by rw [HN.out]; omega) (by rw [HM.out]; omega)
              rw [hr2] at c0
              have d0 : u.v.cell? ⟨b2, o2 + r, none⟩ = some (.int .i64 (T.fa k q r)) := hc2 r (by rw [HM.out]; omega)
              clear hc2 hr2
              have j3 : decide ((r : Int) < (m : Int)) = true := by simp; omega
              cases hw : within (T.fa k q r) 0 9 with
              | true =>
                have HS := Lib.hid (allN_succ HP2.out hw)
                have HW := Lib.hid hw; clear hw
                go_wp2_with (go_at_call 69; refine (within_is HW.out _).mono ?_; rintro e w' ⟨rfl, rfl⟩)
                go_roundw
                case rel => exact ⟨r + 1, by go_num, hlr, HS.out, u, rfl⟩
                case measure => first | (simp [intOf]; done) | (simp [intOf]; omega)
              | false =>
                have HS := Lib.hid (show T.worldOk k = false by
                  unfold Tn.worldOk
                  rw [HN.out, allN_bad hlt (show T.rowOk k q = false by unfold Tn.rowOk; rw [HM.out, allN_bad hlr hw]; simp)]; simp)
                have HW := Lib.hid hw; clear hw
                go_wp2_with (go_at_call 69; refine (within_is HW.out _).mono ?_; rintro e w' ⟨rfl, rfl⟩)
                go_ret
                exact ⟨ret_b HS.out.symm, bT HB.out u.b⟩
            · have HS := Lib.hid (show allN (T.rowOk k) (q + 1) = true from allN_succ HP.out (by
                have := HP2.out
                rw [show r = m by omega] at this
                unfold Tn.rowOk; rw [HM.out, this]; simp [HE2.out]))
              have j3 : decide ((r : Int) < (m : Int)) = false := by simp; omega
              go_wp2
              go_roundw
              case rel => exact ⟨q + 1, by go_num, hlt, HS.out, u, rfl⟩
              case measure => first | (simp [intOf]; done) | (simp [intOf]; omega)
        · have j2 : ((m : Int) != T.wn) = true := by simpa using he2
          have HR := Lib.hid (show T.worldOk k = false by
            unfold Tn.worldOk
            rw [HN.out, allN_bad hlt (show T.rowOk k q = false by unfold Tn.rowOk; rw [HM.out]; simp [he2])]; simp)
          clear he2
          go_wp2
          refine quiet_e (by kernel_rfl) (by kernel_rfl) ?_
          repeat (first | go_big_quiet_step (fail) | quiet_step (fail))
          refine wpQuiet_nil ?_
          intro w6 hw6
          obtain ⟨y2, rfl⟩ := hw6
          go_wp2
          go_ret
          exact ⟨ret_b HR.out.symm, bT HB.out y2.b⟩
      · have HR := Lib.hid (show T.worldOk k = true by
          unfold Tn.worldOk
          have := HP.out
          rw [show q = n by omega] at this
          rw [HN.out, this]; simp [HE.out])
        have j : decide ((q : Int) < (n : Int)) = false := by simp; omega
        go_wp2
        go_ret
        exact ⟨ret_b HR.out.symm, bT HB.out y.b⟩
  · have j1 : ((n : Int) != T.wn) = true := by simpa using he
    have HR := Lib.hid (show T.worldOk k = false by unfold Tn.worldOk; rw [HN.out]; simp [he])
    clear he
    go_enter Tryd.func70, Tryd.ntmps70
    go_wp2
    go_ret
    exact ⟨ret_b HR.out.symm, bT HB.out x.b⟩
end Go.Proofs.YtdjkbpenppdnlaaDoor
