/- Worst and Next, of the specification. -/
import Derived.Test.YtkdlppekjjbgoaaG7

import Derived.Test.YtkdlppekjjbgoaaS5

set_option linter.unusedSimpArgs false

set_option linter.unusedVariables false

namespace Go.Proofs.Ytkdlppekjjbgoaa

open Go.RowKit

set_option maxRecDepth 100000 in
set_option maxHeartbeats 4000000 in
theorem worstR_ok (D : Duct) (p q : Option Addr) (c d : Nat) (f t : Nat) (w : World) (hft : f < t) (htm : t ≤ D.m) (hok : D.ok = true) (hi : DuctIn w w.heap.size D p q) :
    Calls Try.prog 49 #[.agg #[.slice p D.n c, .slice q D.m d], .int .i64 f, .int .i64 t] w fun e w' => e = .returned (.tuple #[.int .i64 (WW D f t), .int .i64 0]) ∧ Below w.heap.size w w' := by
  have hm7 := (D.ok_parts hok).1
  have hnm := (D.ok_parts hok).2.1
  have hn : D.n ≤ 40 := by omega
  have HOK := Lib.hid hok
  obtain ⟨w1, x1, hw1, hb1, hz1, F0, F1⟩ := box_line w p q D.n D.m c d
  have HB := Lib.hid hb1
  have HI : Hid (∀ x : Ext w1, DuctIn x.v x.v.heap.size D p q) := fun x => (hi.bel hb1).bel x.b
  clear hb1 hz1 hi
  have HW := Lib.hid (show ∀ V : World, DuctIn V V.heap.size D p q → Calls Try.prog 77 #[.agg #[.slice p D.n c, .slice q D.m d], .int .i64 f, .int .i64 t] V fun e w' => e = .returned (.int .i64 (WW D f t)) ∧ Below V.heap.size V w' from fun V h => worst_any D p q c d f t V HOK.out (by omega) htm h)
  have HS := Lib.hid (show ∀ V : World, Calls Try.prog 35 #[.agg #[.slice p D.n c, .slice q D.m d], .int .i64 f, .int .i64 t] V fun e w' => e = .returned (.bool true) ∧ Below V.heap.size V w' from fun V => by
    have := areSomeR_any D p q c d f t V (by omega)
    rw [areS_tt (by omega) htm] at this
    exact this)
  have HC := Lib.hid (show ∀ V : World, DuctIn V V.heap.size D p q → Calls Try.prog 76 #[.agg #[.slice p D.n c, .slice q D.m d], .bool true] V fun e w' => e = .returned (.int .i64 0) ∧ Below V.heap.size V w' from fun V h => by
    have := ask_any D p q c d true V hn (by omega) h
    rw [hok] at this
    exact this)
  clear hok hnm
  go_enter Try.func49, Try.ntmps49
  go_wp2
  refine quiet_e (by kernel_rfl) (by kernel_rfl) ?_
  repeat (first | go_big_quiet_step ((first | (go_at_call 35; exact quiet_x (HS.out _)) | (go_at_call 76; exact quiet_x (HC.out _ (HI.out _))))) | quiet_step ((first | (go_at_call 35; exact quiet_x (HS.out _)) | (go_at_call 76; exact quiet_x (HC.out _ (HI.out _))))))
  refine wpQuiet_nil ?_
  intro w6 hw6
  obtain ⟨y, rfl⟩ := hw6
  go_wp2_with fail
  refine (quiet_x (HW.out _ (HI.out _))).mono ?_
  rintro e w' ⟨rfl, y2, rfl⟩
  go_wp2
  refine bodyPost_ret (v := .tuple #[.int .i64 (WW D f t), .int .i64 0]) (by simp [results, Try.f49, go_sem]) rfl ⟨rfl, ?_⟩
  exact bT HB.out y2.b
set_option maxRecDepth 100000 in
set_option maxHeartbeats 4000000 in
theorem worstR_er (D : Duct) (p q : Option Addr) (c d : Nat) (f t er : Int) (w : World) (hn : D.n ≤ 40) (hm : D.m ≤ 40) (he : chkE D.ok (areS D f t) = er) (h0 : er ≠ 0) (hi : DuctIn w w.heap.size D p q) :
    Calls Try.prog 49 #[.agg #[.slice p D.n c, .slice q D.m d], .int .i64 f, .int .i64 t] w fun e w' => e = .returned (.tuple #[.int .i64 0, .int .i64 er]) ∧ Below w.heap.size w w' := by
  obtain ⟨w1, x1, hw1, hb1, hz1, F0, F1⟩ := box_line w p q D.n D.m c d
  have HB := Lib.hid hb1
  have HI : Hid (∀ x : Ext w1, DuctIn x.v x.v.heap.size D p q) := fun x => (hi.bel hb1).bel x.b
  clear hb1 hz1 hi
  obtain ⟨is, his⟩ : ∃ z, areS D f t = z := ⟨_, rfl⟩
  rw [his] at he
  have HS := Lib.hid (show ∀ V : World, Calls Try.prog 35 #[.agg #[.slice p D.n c, .slice q D.m d], .int .i64 f, .int .i64 t] V fun e w' => e = .returned (.bool is) ∧ Below V.heap.size V w' from fun V => by
    have := areSomeR_any D p q c d f t V (by omega)
    rw [his] at this
    exact this)
  have HC := Lib.hid (show ∀ V : World, DuctIn V V.heap.size D p q → Calls Try.prog 76 #[.agg #[.slice p D.n c, .slice q D.m d], .bool is] V fun e w' => e = .returned (.int .i64 er) ∧ Below V.heap.size V w' from fun V h => by
    have := ask_any D p q c d is V hn hm h
    rw [he] at this
    exact this)
  clear he his
  go_enter Try.func49, Try.ntmps49
  go_wp2
  refine quiet_e (by kernel_rfl) (by kernel_rfl) ?_
  repeat (first | go_big_quiet_step ((first | (go_at_call 35; exact quiet_x (HS.out _)) | (go_at_call 76; exact quiet_x (HC.out _ (HI.out _))))) | quiet_step ((first | (go_at_call 35; exact quiet_x (HS.out _)) | (go_at_call 76; exact quiet_x (HC.out _ (HI.out _))))))
  refine wpQuiet_nil ?_
  intro w6 hw6
  obtain ⟨y, rfl⟩ := hw6
  go_wp2
  refine bodyPost_ret (v := .tuple #[.int .i64 0, .int .i64 er]) (by simp [results, Try.f49, go_sem]) rfl ⟨rfl, ?_⟩
  exact bT HB.out y.b
set_option maxRecDepth 100000 in
set_option maxHeartbeats 4000000 in
theorem nextR_ok (D : Duct) (p q : Option Addr) (c d : Nat) (f t : Nat) (w : World) (hft : f + 1 < t) (htm : t ≤ D.m) (hok : D.ok = true) (hi : DuctIn w w.heap.size D p q) :
    Calls Try.prog 50 #[.agg #[.slice p D.n c, .slice q D.m d], .int .i64 f, .int .i64 t] w fun e w' => e = .returned (.tuple #[.int .i64 (NX D f t), .int .i64 0]) ∧ Below w.heap.size w w' := by
  have hm7 := (D.ok_parts hok).1
  have hnm := (D.ok_parts hok).2.1
  have hn : D.n ≤ 40 := by omega
  have HOK := Lib.hid hok
  obtain ⟨w1, x1, hw1, hb1, hz1, F0, F1⟩ := box_line w p q D.n D.m c d
  have HB := Lib.hid hb1
  have HI : Hid (∀ x : Ext w1, DuctIn x.v x.v.heap.size D p q) := fun x => (hi.bel hb1).bel x.b
  clear hb1 hz1 hi
  have HW := Lib.hid (show ∀ V : World, DuctIn V V.heap.size D p q → Calls Try.prog 78 #[.agg #[.slice p D.n c, .slice q D.m d], .int .i64 f, .int .i64 t] V fun e w' => e = .returned (.int .i64 (NX D f t)) ∧ Below V.heap.size V w' from fun V h => nextR_any D p q c d f t V HOK.out hft htm h)
  have j1 : ((t : Int) == (f : Int) + 1) = false := by simp; omega
  have hf7 : f ≤ 7 := by omega
  have HS := Lib.hid (show ∀ V : World, Calls Try.prog 35 #[.agg #[.slice p D.n c, .slice q D.m d], .int .i64 f, .int .i64 t] V fun e w' => e = .returned (.bool true) ∧ Below V.heap.size V w' from fun V => by
    have := areSomeR_any D p q c d f t V (by omega)
    rw [areS_tt (by omega) htm] at this
    exact this)
  have HC := Lib.hid (show ∀ V : World, DuctIn V V.heap.size D p q → Calls Try.prog 76 #[.agg #[.slice p D.n c, .slice q D.m d], .bool true] V fun e w' => e = .returned (.int .i64 0) ∧ Below V.heap.size V w' from fun V h => by
    have := ask_any D p q c d true V hn (by omega) h
    rw [hok] at this
    exact this)
  clear hok hnm
  go_enter Try.func50, Try.ntmps50
  go_wp2
  refine quiet_e (by kernel_rfl) (by kernel_rfl) ?_
  repeat (first | go_big_quiet_step ((first | (go_at_call 35; exact quiet_x (HS.out _)) | (go_at_call 76; exact quiet_x (HC.out _ (HI.out _))))) | quiet_step ((first | (go_at_call 35; exact quiet_x (HS.out _)) | (go_at_call 76; exact quiet_x (HC.out _ (HI.out _))))))
  refine wpQuiet_nil ?_
  intro w6 hw6
  obtain ⟨y, rfl⟩ := hw6
  go_wp2_with fail
  refine (quiet_x (HW.out _ (HI.out _))).mono ?_
  rintro e w' ⟨rfl, y2, rfl⟩
  go_wp2
  refine bodyPost_ret (v := .tuple #[.int .i64 (NX D f t), .int .i64 0]) (by simp [results, Try.f50, go_sem]) rfl ⟨rfl, ?_⟩
  exact bT HB.out y2.b
set_option maxRecDepth 100000 in
set_option maxHeartbeats 4000000 in
theorem nextR_er (D : Duct) (p q : Option Addr) (c d : Nat) (f t er : Int) (w : World) (hn : D.n ≤ 40) (hm : D.m ≤ 40) (he : chkE D.ok (areS D f t) = er) (h0 : er ≠ 0) (hi : DuctIn w w.heap.size D p q) :
    Calls Try.prog 50 #[.agg #[.slice p D.n c, .slice q D.m d], .int .i64 f, .int .i64 t] w fun e w' => e = .returned (.tuple #[.int .i64 0, .int .i64 er]) ∧ Below w.heap.size w w' := by
  obtain ⟨w1, x1, hw1, hb1, hz1, F0, F1⟩ := box_line w p q D.n D.m c d
  have HB := Lib.hid hb1
  have HI : Hid (∀ x : Ext w1, DuctIn x.v x.v.heap.size D p q) := fun x => (hi.bel hb1).bel x.b
  clear hb1 hz1 hi
  obtain ⟨is, his⟩ : ∃ z, areS D f t = z := ⟨_, rfl⟩
  rw [his] at he
  have HS := Lib.hid (show ∀ V : World, Calls Try.prog 35 #[.agg #[.slice p D.n c, .slice q D.m d], .int .i64 f, .int .i64 t] V fun e w' => e = .returned (.bool is) ∧ Below V.heap.size V w' from fun V => by
    have := areSomeR_any D p q c d f t V (by omega)
    rw [his] at this
    exact this)
  have HC := Lib.hid (show ∀ V : World, DuctIn V V.heap.size D p q → Calls Try.prog 76 #[.agg #[.slice p D.n c, .slice q D.m d], .bool is] V fun e w' => e = .returned (.int .i64 er) ∧ Below V.heap.size V w' from fun V h => by
    have := ask_any D p q c d is V hn hm h
    rw [he] at this
    exact this)
  clear he his
  go_enter Try.func50, Try.ntmps50
  go_wp2
  refine quiet_e (by kernel_rfl) (by kernel_rfl) ?_
  repeat (first | go_big_quiet_step ((first | (go_at_call 35; exact quiet_x (HS.out _)) | (go_at_call 76; exact quiet_x (HC.out _ (HI.out _))))) | quiet_step ((first | (go_at_call 35; exact quiet_x (HS.out _)) | (go_at_call 76; exact quiet_x (HC.out _ (HI.out _))))))
  refine wpQuiet_nil ?_
  intro w6 hw6
  obtain ⟨y, rfl⟩ := hw6
  go_wp2
  refine bodyPost_ret (v := .tuple #[.int .i64 0, .int .i64 er]) (by simp [results, Try.f50, go_sem]) rfl ⟨rfl, ?_⟩
  exact bT HB.out y.b
set_option maxRecDepth 100000 in
set_option maxHeartbeats 4000000 in
theorem nextR_one (D : Duct) (p q : Option Addr) (c d : Nat) (f t : Nat) (w : World) (hft : t = f + 1) (htm : t ≤ D.m) (hok : D.ok = true) (hi : DuctIn w w.heap.size D p q) :
    Calls Try.prog 50 #[.agg #[.slice p D.n c, .slice q D.m d], .int .i64 f, .int .i64 t] w fun e w' => e = .returned (.tuple #[.int .i64 (0), .int .i64 3]) ∧ Below w.heap.size w w' := by
  have hm7 := (D.ok_parts hok).1
  have hnm := (D.ok_parts hok).2.1
  have hn : D.n ≤ 40 := by omega
  have HOK := Lib.hid hok
  obtain ⟨w1, x1, hw1, hb1, hz1, F0, F1⟩ := box_line w p q D.n D.m c d
  have HB := Lib.hid hb1
  have HI : Hid (∀ x : Ext w1, DuctIn x.v x.v.heap.size D p q) := fun x => (hi.bel hb1).bel x.b
  clear hb1 hz1 hi
  have j1 : ((t : Int) == (f : Int) + 1) = true := by simp; omega
  have hf7 : f ≤ 7 := by omega
  have HS := Lib.hid (show ∀ V : World, Calls Try.prog 35 #[.agg #[.slice p D.n c, .slice q D.m d], .int .i64 f, .int .i64 t] V fun e w' => e = .returned (.bool true) ∧ Below V.heap.size V w' from fun V => by
    have := areSomeR_any D p q c d f t V (by omega)
    rw [areS_tt (by omega) htm] at this
    exact this)
  have HC := Lib.hid (show ∀ V : World, DuctIn V V.heap.size D p q → Calls Try.prog 76 #[.agg #[.slice p D.n c, .slice q D.m d], .bool true] V fun e w' => e = .returned (.int .i64 0) ∧ Below V.heap.size V w' from fun V h => by
    have := ask_any D p q c d true V hn (by omega) h
    rw [hok] at this
    exact this)
  clear hok hnm hft
  go_enter Try.func50, Try.ntmps50
  go_wp2
  refine quiet_e (by kernel_rfl) (by kernel_rfl) ?_
  repeat (first | go_big_quiet_step ((first | (go_at_call 35; exact quiet_x (HS.out _)) | (go_at_call 76; exact quiet_x (HC.out _ (HI.out _))))) | quiet_step ((first | (go_at_call 35; exact quiet_x (HS.out _)) | (go_at_call 76; exact quiet_x (HC.out _ (HI.out _))))))
  refine wpQuiet_nil ?_
  intro w6 hw6
  obtain ⟨y, rfl⟩ := hw6
  go_wp2
  refine bodyPost_ret (v := .tuple #[.int .i64 0, .int .i64 3]) (by simp [results, Try.f50, go_sem]) rfl ⟨rfl, ?_⟩
  exact bT HB.out y.b
end Go.Proofs.Ytkdlppekjjbgoaa
