/- The cheapest gaugings, of the program: Worst and Next where they name an error. -/
import Derived.Test.YtkdlppekjjbgoaaW4

set_option linter.unusedSimpArgs false

set_option linter.unusedVariables false

namespace Go.Proofs.Ytkdlppekjjbgoaa

open Go.RowKit

set_option maxRecDepth 100000 in
set_option maxHeartbeats 2000000 in
theorem worstP_er (D : Duct) (p q : Option Addr) (c d : Nat) (f t er : Int) (w : World) (hn : D.n ≤ 40) (hm : D.m ≤ 40) (hi : DuctIn w w.heap.size D p q) (he : chkE D.ok (areS D f t) = er) (h0 : er ≠ 0) :
    Calls Try.prog 28 #[.agg #[.slice p D.n c, .slice q D.m d], .int .i64 f, .int .i64 t] w fun e w' => e = .returned (.tuple #[.int .i64 0, .int .i64 er]) ∧ Below w.heap.size w w' := by
  obtain ⟨w1, x, hw1, hb1, hz1, F0, F1⟩ := box_line w p q D.n D.m c d
  have HB := Lib.hid hb1
  have HI : Hid (∀ x : Ext w1, DuctIn x.v x.v.heap.size D p q) := fun x => (hi.bel hb1).bel x.b
  clear hb1 hz1 hi
  obtain ⟨is, his⟩ : ∃ z, areS D f t = z := ⟨_, rfl⟩
  rw [his] at he
  have HS := Lib.hid (show ∀ V : World, Calls Try.prog 65 #[.agg #[.slice p D.n c, .slice q D.m d], .int .i64 f, .int .i64 t] V fun e w' => e = .returned (.bool is) ∧ Below V.heap.size V w' from fun V => by
    have := areSome_any D p q c d f t V
    rw [his] at this
    exact this)
  have HC := Lib.hid (show ∀ V : World, DuctIn V V.heap.size D p q → Calls Try.prog 57 #[.agg #[.slice p D.n c, .slice q D.m d], .bool is] V fun e w' => e = .returned (.int .i64 er) ∧ Below V.heap.size V w' from fun V h => by
    have := check_any D p q c d is V hn hm h
    rw [he] at this
    exact this)
  clear he his
  go_enter Try.func28, Try.ntmps28
  go_wp2
  refine quiet_e (by kernel_rfl) (by kernel_rfl) ?_
  repeat (first | go_big_quiet_step ((first | (go_at_call 65; exact quiet_x (HS.out _)) | (go_at_call 57; exact quiet_x (HC.out _ (HI.out _))))) | quiet_step ((first | (go_at_call 65; exact quiet_x (HS.out _)) | (go_at_call 57; exact quiet_x (HC.out _ (HI.out _))))))
  refine wpQuiet_nil ?_
  intro w6 hw6
  obtain ⟨y, rfl⟩ := hw6
  go_wp2
  refine bodyPost_ret (v := .tuple #[.int .i64 0, .int .i64 er]) (by simp [results, Try.f28, go_sem]) rfl ⟨rfl, ?_⟩
  exact bT HB.out y.b
set_option maxRecDepth 100000 in
set_option maxHeartbeats 2000000 in
theorem nextP_er (D : Duct) (p q : Option Addr) (c d : Nat) (f t er : Int) (w : World) (hn : D.n ≤ 40) (hm : D.m ≤ 40) (hi : DuctIn w w.heap.size D p q) (he : chkE D.ok (areS D f t) = er) (h0 : er ≠ 0) :
    Calls Try.prog 31 #[.agg #[.slice p D.n c, .slice q D.m d], .int .i64 f, .int .i64 t] w fun e w' => e = .returned (.tuple #[.int .i64 0, .int .i64 er]) ∧ Below w.heap.size w w' := by
  obtain ⟨w1, x, hw1, hb1, hz1, F0, F1⟩ := box_line w p q D.n D.m c d
  have HB := Lib.hid hb1
  have HI : Hid (∀ x : Ext w1, DuctIn x.v x.v.heap.size D p q) := fun x => (hi.bel hb1).bel x.b
  clear hb1 hz1 hi
  obtain ⟨is, his⟩ : ∃ z, areS D f t = z := ⟨_, rfl⟩
  rw [his] at he
  have HS := Lib.hid (show ∀ V : World, Calls Try.prog 65 #[.agg #[.slice p D.n c, .slice q D.m d], .int .i64 f, .int .i64 t] V fun e w' => e = .returned (.bool is) ∧ Below V.heap.size V w' from fun V => by
    have := areSome_any D p q c d f t V
    rw [his] at this
    exact this)
  have HC := Lib.hid (show ∀ V : World, DuctIn V V.heap.size D p q → Calls Try.prog 57 #[.agg #[.slice p D.n c, .slice q D.m d], .bool is] V fun e w' => e = .returned (.int .i64 er) ∧ Below V.heap.size V w' from fun V h => by
    have := check_any D p q c d is V hn hm h
    rw [he] at this
    exact this)
  clear he his
  go_enter Try.func31, Try.ntmps31
  go_wp2
  refine quiet_e (by kernel_rfl) (by kernel_rfl) ?_
  repeat (first | go_big_quiet_step ((first | (go_at_call 65; exact quiet_x (HS.out _)) | (go_at_call 57; exact quiet_x (HC.out _ (HI.out _))))) | quiet_step ((first | (go_at_call 65; exact quiet_x (HS.out _)) | (go_at_call 57; exact quiet_x (HC.out _ (HI.out _))))))
  refine wpQuiet_nil ?_
  intro w6 hw6
  obtain ⟨y, rfl⟩ := hw6
  go_wp2
  refine bodyPost_ret (v := .tuple #[.int .i64 0, .int .i64 er]) (by simp [results, Try.f31, go_sem]) rfl ⟨rfl, ?_⟩
  exact bT HB.out y.b
end Go.Proofs.Ytkdlppekjjbgoaa
