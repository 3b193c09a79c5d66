/- The cheapest gaugings, of the program: Worst, Next; AreSome of the specification. -/
import Derived.Test.YtkdlppekjjbgoaaW3

set_option linter.unusedSimpArgs false

set_option linter.unusedVariables false

namespace Go.Proofs.Ytkdlppekjjbgoaa

open Go.RowKit

theorem areS_tt {D : Duct} {f t : Nat} (h : f < t) (h2 : t ≤ D.m) : areS D (f : Int) (t : Int) = true := by unfold areS; simp; omega
theorem areS_nat {D : Duct} {f t : Int} (h : areS D f t = true) : ∃ a b : Nat, f = (a : Int) ∧ t = (b : Int) ∧ a < b ∧ b ≤ D.m := by
  obtain ⟨h1, h2, h3⟩ := of_decide_eq_true h
  exact ⟨f.toNat, t.toNat, by omega, by omega, by omega, by omega⟩
theorem areS_eq {D : Duct} {f t : Int} : areS D f t = (isSt D f && (within t 1 (D.m : Int) && decide (f < t))) := by
  rw [Bool.eq_iff_iff]; unfold areS isSt; simp only [Bool.and_eq_true, within_iff, decide_eq_true_eq]; omega
theorem PV_tt {D : Duct} {f t : Nat} (h : t ≤ D.m) : PV D 0 f t = CH (gW D) f t := if_pos ⟨Nat.zero_le _, h⟩
theorem co_bd {D : Duct} (hok : D.ok = true) : ∀ k, k < D.n → 0 ≤ D.co k ∧ D.co k ≤ 20 := fun k hk => ((D.ok_parts hok).2.2.2 k hk).2.2
set_option maxRecDepth 100000 in
set_option maxHeartbeats 2000000 in
theorem worstP_ok (D : Duct) (p q : Option Addr) (c d : Nat) (f t : Nat) (w : World) (hft : f < t) (htm : t ≤ D.m) (hn : D.n ≤ 40) (hok : D.ok = true) (hi : DuctIn w w.heap.size D p q) :
    Calls Try.prog 28 #[.agg #[.slice p D.n c, .slice q D.m d], .int .i64 f, .int .i64 t] w fun e w' => e = .returned (.tuple #[.int .i64 (WW D f t), .int .i64 0]) ∧ Below w.heap.size w w' := by
  obtain ⟨w1, x, hw1, hb1, hz1, F0, F1⟩ := box_line w p q D.n D.m c d
  have HB := Lib.hid hb1
  have HI : Hid (∀ x : Ext w1, DuctIn x.v x.v.heap.size D p q) := fun x => (hi.bel hb1).bel x.b
  clear hb1 hz1 hi
  have hm7 := (D.ok_parts hok).1
  have HNM := Lib.hid (D.ok_parts hok).2.1
  have HCO := Lib.hid (co_bd hok)
  have HS := Lib.hid (show ∀ V : World, Calls Try.prog 65 #[.agg #[.slice p D.n c, .slice q D.m d], .int .i64 f, .int .i64 t] V fun e w' => e = .returned (.bool true) ∧ Below V.heap.size V w' from fun V => by
    have := areSome_any D p q c d f t V
    rw [areS_tt hft htm] at this
    exact this)
  have HC := Lib.hid (show ∀ V : World, DuctIn V V.heap.size D p q → Calls Try.prog 57 #[.agg #[.slice p D.n c, .slice q D.m d], .bool true] V fun e w' => e = .returned (.int .i64 0) ∧ Below V.heap.size V w' from fun V h => by
    have := check_any D p q c d true V hn (by omega) h
    rw [hok] at this
    exact this)
  have j1 : (f : Int) < 7 := by omega
  have j2 : (t : Int) < 8 := by omega
  have hf7 : f < 7 := by omega
  have ht8 : t < 8 := by omega
  go_enter Try.func28, Try.ntmps28
  go_wp2
  refine quiet_e (by kernel_rfl) (by kernel_rfl) ?_
  repeat (first | go_big_quiet_step ((first | (go_at_call 65; exact quiet_x (HS.out _)) | (go_at_call 57; exact quiet_x (HC.out _ (HI.out _))))) | quiet_step ((first | (go_at_call 65; exact quiet_x (HS.out _)) | (go_at_call 57; exact quiet_x (HC.out _ (HI.out _))))))
  refine wpQuiet_nil ?_
  intro w6 hw6
  obtain ⟨y, rfl⟩ := hw6
  go_wp2_with (go_at_call 66; refine (atWorst_any D p q c d _ hn hm7 HNM.out HCO.out (HI.out _)).mono ?_; rintro e w' ⟨cb, rfl, hb, ht⟩; have C0 : w'.cell? ⟨cb, f * 16 + t * 2 + 1, none⟩ = some (.int .i64 (WW D f t)) := (ht.c1 f t hf7 ht8).trans (by rw [PV_tt htm]; rfl))
  refine bodyPost_ret (v := .tuple #[.int .i64 (WW D f t), .int .i64 0]) (by simp [results, Try.f28, go_sem]) rfl ⟨rfl, ?_⟩
  exact bT HB.out (bT y.b hb)
set_option maxRecDepth 100000 in
set_option maxHeartbeats 2000000 in
theorem nextP_ok (D : Duct) (p q : Option Addr) (c d : Nat) (f t : Nat) (w : World) (hft2 : f + 1 < t) (htm : t ≤ D.m) (hn : D.n ≤ 40) (hok : D.ok = true) (hi : DuctIn w w.heap.size D p q) :
    Calls Try.prog 31 #[.agg #[.slice p D.n c, .slice q D.m d], .int .i64 f, .int .i64 t] w fun e w' => e = .returned (.tuple #[.int .i64 (NX D f t), .int .i64 0]) ∧ Below w.heap.size w w' := by
  have hft : f < t := by omega
  obtain ⟨w1, x, hw1, hb1, hz1, F0, F1⟩ := box_line w p q D.n D.m c d
  have HB := Lib.hid hb1
  have HI : Hid (∀ x : Ext w1, DuctIn x.v x.v.heap.size D p q) := fun x => (hi.bel hb1).bel x.b
  clear hb1 hz1 hi
  have hm7 := (D.ok_parts hok).1
  have HNM := Lib.hid (D.ok_parts hok).2.1
  have HCO := Lib.hid (co_bd hok)
  have HS := Lib.hid (show ∀ V : World, Calls Try.prog 65 #[.agg #[.slice p D.n c, .slice q D.m d], .int .i64 f, .int .i64 t] V fun e w' => e = .returned (.bool true) ∧ Below V.heap.size V w' from fun V => by
    have := areSome_any D p q c d f t V
    rw [areS_tt hft htm] at this
    exact this)
  have HC := Lib.hid (show ∀ V : World, DuctIn V V.heap.size D p q → Calls Try.prog 57 #[.agg #[.slice p D.n c, .slice q D.m d], .bool true] V fun e w' => e = .returned (.int .i64 0) ∧ Below V.heap.size V w' from fun V h => by
    have := check_any D p q c d true V hn (by omega) h
    rw [hok] at this
    exact this)
  have j1 : (f : Int) < 7 := by omega
  have j2 : (t : Int) < 8 := by omega
  have hf7 : f < 7 := by omega
  have ht8 : t < 8 := by omega
  have hw : IntKind.i64.wrap ((t : Int) - (f : Int)) = (t : Int) - (f : Int) := IntWalk.i64_in _ (by omega)
  have d1 : decide ((t : Int) - (f : Int) = 1) = false := by simp; omega
  go_enter Try.func31, Try.ntmps31
  go_wp2
  refine quiet_e (by kernel_rfl) (by kernel_rfl) ?_
  repeat (first | go_big_quiet_step ((first | (go_at_call 65; exact quiet_x (HS.out _)) | (go_at_call 57; exact quiet_x (HC.out _ (HI.out _))))) | quiet_step ((first | (go_at_call 65; exact quiet_x (HS.out _)) | (go_at_call 57; exact quiet_x (HC.out _ (HI.out _))))))
  refine wpQuiet_nil ?_
  intro w6 hw6
  obtain ⟨y, rfl⟩ := hw6
  go_wp2_with (go_at_call 66; refine (atWorst_any D p q c d _ hn hm7 HNM.out HCO.out (HI.out _)).mono ?_; rintro e w' ⟨cb, rfl, hb, ht⟩; have C0 : w'.cell? ⟨cb, f * 16 + t * 2, none⟩ = some (.int .i64 (NX D f t)) := (ht.c0 f t hf7 ht8).trans (by rw [PV_tt htm]; rfl))
  refine bodyPost_ret (v := .tuple #[.int .i64 (NX D f t), .int .i64 0]) (by simp [results, Try.f31, go_sem]) rfl ⟨rfl, ?_⟩
  exact bT HB.out (bT y.b hb)
set_option maxRecDepth 100000 in
set_option maxHeartbeats 2000000 in
theorem nextP_one (D : Duct) (p q : Option Addr) (c d : Nat) (f t : Nat) (w : World) (hft1 : t = f + 1) (htm : t ≤ D.m) (hn : D.n ≤ 40) (hok : D.ok = true) (hi : DuctIn w w.heap.size D p q) :
    Calls Try.prog 31 #[.agg #[.slice p D.n c, .slice q D.m d], .int .i64 f, .int .i64 t] w fun e w' => e = .returned (.tuple #[.int .i64 0, .int .i64 3]) ∧ Below w.heap.size w w' := by
  have hft : f < t := by omega
  obtain ⟨w1, x, hw1, hb1, hz1, F0, F1⟩ := box_line w p q D.n D.m c d
  have HB := Lib.hid hb1
  have HI : Hid (∀ x : Ext w1, DuctIn x.v x.v.heap.size D p q) := fun x => (hi.bel hb1).bel x.b
  clear hb1 hz1 hi
  have hm7 := (D.ok_parts hok).1
  have HNM := Lib.hid (D.ok_parts hok).2.1
  have HCO := Lib.hid (co_bd hok)
  have HS := Lib.hid (show ∀ V : World, Calls Try.prog 65 #[.agg #[.slice p D.n c, .slice q D.m d], .int .i64 f, .int .i64 t] V fun e w' => e = .returned (.bool true) ∧ Below V.heap.size V w' from fun V => by
    have := areSome_any D p q c d f t V
    rw [areS_tt hft htm] at this
    exact this)
  have HC := Lib.hid (show ∀ V : World, DuctIn V V.heap.size D p q → Calls Try.prog 57 #[.agg #[.slice p D.n c, .slice q D.m d], .bool true] V fun e w' => e = .returned (.int .i64 0) ∧ Below V.heap.size V w' from fun V h => by
    have := check_any D p q c d true V hn (by omega) h
    rw [hok] at this
    exact this)
  have j1 : (f : Int) < 7 := by omega
  have j2 : (t : Int) < 8 := by omega
  have hf7 : f < 7 := by omega
  have ht8 : t < 8 := by omega
  have hw : IntKind.i64.wrap ((t : Int) - (f : Int)) = 1 := by rw [show (t : Int) - (f : Int) = 1 by omega]; rfl
  clear hft1
  go_enter Try.func31, Try.ntmps31
  go_wp2
  refine quiet_e (by kernel_rfl) (by kernel_rfl) ?_
  repeat (first | go_big_quiet_step ((first | (go_at_call 65; exact quiet_x (HS.out _)) | (go_at_call 57; exact quiet_x (HC.out _ (HI.out _))))) | quiet_step ((first | (go_at_call 65; exact quiet_x (HS.out _)) | (go_at_call 57; exact quiet_x (HC.out _ (HI.out _))))))
  refine wpQuiet_nil ?_
  intro w6 hw6
  obtain ⟨y, rfl⟩ := hw6
  go_wp2
  refine bodyPost_ret (v := .tuple #[.int .i64 0, .int .i64 3]) (by simp [results, Try.f31, go_sem]) rfl ⟨rfl, ?_⟩
  exact bT HB.out y.b
theorem areSomeR_any (D : Duct) (p q : Option Addr) (c d : Nat) (f t : Int) (w : World) (hm : D.m ≤ 40) :
    Calls Try.prog 35 #[.agg #[.slice p D.n c, .slice q D.m d], .int .i64 f, .int .i64 t] w fun e w' => e = .returned (.bool (areS D f t)) ∧ Below w.heap.size w w' := by
  obtain ⟨w1, x, hw1, hb1, hz1, F0, F1⟩ := box_line w p q D.n D.m c d
  have HB := Lib.hid hb1
  clear hb1 hz1
  rw [areS_eq]
  have HS := isStretchR_any D p q c d f
  have HW := within_any t 1 (D.m : Int)
  cases h1 : isSt D f <;> cases h2 : within t 1 (D.m : Int) <;> cases h3 : decide (f < t)
  all_goals
    rw [h1] at HS; rw [h2] at HW
    have HS' := Lib.hid HS; have HW' := Lib.hid HW
    clear HS HW h1 h2
    go_enter Try.func35, Try.ntmps35
    go_wp2_with (first | (go_at_call 27; refine (quiet_x (HS'.out _ hm)).mono ?_; rintro e w' ⟨rfl, y, rfl⟩) | (go_at_call 61; refine (HW'.out _).mono ?_; rintro e w' ⟨rfl, rfl⟩))
    go_ret
    exact ⟨rfl, bT HB.out (Ext.b _)⟩
end Go.Proofs.Ytkdlppekjjbgoaa
