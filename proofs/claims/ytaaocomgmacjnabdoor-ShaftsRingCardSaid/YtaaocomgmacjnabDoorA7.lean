/- Shafts: the price of a foot: PriceOf and Price of the specification. -/
import Derived.Test.YtaaocomgmacjnabDoorA6

set_option linter.unusedSimpArgs false

set_option linter.unusedVariables false

namespace Go.Proofs.YtaaocomgmacjnabDoor

open Go.RowKit

set_option maxRecDepth 100000 in
set_option maxHeartbeats 2000000 in
theorem priceOfR_any (S : Shaft) (p q : Option Addr) (c d k : Nat) (w : World) (hok : S.ok = true) (hk : k < S.F.length) (hb : ShaftIn w w.heap.size S p q) :
    Calls Tryd.prog 40 #[.agg #[.slice q S.R.length d, .slice p S.F.length c, .int .i64 S.D, .int .i64 S.H, .int .i64 S.T], .int .i64 (k : Int)] w fun e w' => e = .returned (.int .i64 (S.price k)) ∧ Below w.heap.size w w' := by
  obtain ⟨⟨r0, r1⟩, ⟨r2, r3⟩, _⟩ := S.rock_bd hok hk
  obtain ⟨_, h12, _, _, ⟨d0, d1⟩, _⟩ := S.ok_parts hok
  obtain ⟨m0, m1⟩ := mul_bd (k := k) (n := 12) (by omega) d0 d1
  obtain ⟨w1, hw1, hb1, hz1, k0, k1, k2, k3, k4, k5⟩ := box_shaft w S p q c d
  have hbk := hb.bel hb1
  have HRK := Lib.hid (fun (V : World) (hV : Below w1.heap.size w1 V) => rockR_any S p q c d k V hok hk (hbk.bel hV))
  obtain ⟨x, hx'⟩ : ∃ x, S.rock (k : Int) = x := ⟨_, rfl⟩
  have HP : x.p + (k : Int) * S.D = S.price k := by unfold Shaft.price; rw [hx']
  rw [hx'] at HRK r0 r1 r2 r3
  rw [← HP]
  obtain ⟨m, hm⟩ : ∃ m, (k : Int) * S.D = m := ⟨_, rfl⟩
  rw [hm] at m0 m1 ⊢
  have W1 : IntKind.i64.wrap ((k : Int) * S.D) = m := by rw [hm]; exact IntWalk.i64_in _ (by omega)
  have W2 : IntKind.i64.wrap (x.p + m) = x.p + m := IntWalk.i64_in _ (by omega)
  have HB := Lib.hid hb1
  have fx : ∀ W, (Instr.field 55 (.agg #[.int .i64 x.h, .int .i64 x.p, .int .i64 x.s, .int .i64 x.e]) 1).run Tryd.prog W = .ok (.int .i64 x.p) W := fun _ => by kernel_rfl
  have F0 : ∀ x : Ext w1, x.v.cell? ⟨w.heap.size, 0, none⟩ = some (.slice q S.R.length d) := fun x => (x.b.cell (p := ⟨w.heap.size, 0, none⟩) k5).trans k0
  have F1 : ∀ x : Ext w1, x.v.cell? ⟨w.heap.size, 1, none⟩ = some (.slice p S.F.length c) := fun x => (x.b.cell (p := ⟨w.heap.size, 1, none⟩) k5).trans k1
  have F2 : ∀ x : Ext w1, x.v.cell? ⟨w.heap.size, 2, none⟩ = some (.int .i64 S.D) := fun x => (x.b.cell (p := ⟨w.heap.size, 2, none⟩) k5).trans k2
  have F3 : ∀ x : Ext w1, x.v.cell? ⟨w.heap.size, 3, none⟩ = some (.int .i64 S.H) := fun x => (x.b.cell (p := ⟨w.heap.size, 3, none⟩) k5).trans k3
  have F4 : ∀ x : Ext w1, x.v.cell? ⟨w.heap.size, 4, none⟩ = some (.int .i64 S.T) := fun x => (x.b.cell (p := ⟨w.heap.size, 4, none⟩) k5).trans k4
  clear hb hb1 hz1 hok HP hm hx' hbk
  go_enter Tryd.func40, Tryd.ntmps40
  go_wp2
  refine quiet_lit (by kernel_rfl) (by kernel_rfl) ?_
  repeat (first | go_big_quiet_step ((go_at_call 41; exact quiet_x (HRK.out _ (by rename_i x; exact x.b)))) | quiet_step ((go_at_call 41; exact quiet_x (HRK.out _ (by rename_i x; exact x.b)))))
  refine wpQuiet_nil ?_
  intro w2 hw
  obtain ⟨⟨w2, hw⟩, rfl⟩ := hw
  have HW2 := Lib.hid hw; clear hw
  go_wp2
  go_ret
  exact ⟨rfl, bT HB.out HW2.out⟩

set_option maxRecDepth 100000 in
set_option maxHeartbeats 4000000 in
theorem priceR_any (S : Shaft) (p q : Option Addr) (c d : Nat) (n : Int) (w : World) (hF : S.F.length ≤ 1000000) (hR : S.R.length ≤ 1000000) (hb : ShaftIn w w.heap.size S p q) :
    Calls Tryd.prog 12 #[.agg #[.slice q S.R.length d, .slice p S.F.length c, .int .i64 S.D, .int .i64 S.H, .int .i64 S.T], .int .i64 n] w fun e w' => e = .returned (.tuple #[.int .i64 (prV S n), .int .i64 (hrV S n), .int .i64 (askErr S.ok (S.isFoot n))]) ∧ Below w.heap.size w w' := by
  obtain ⟨w1, hw1, hb1, hz1, k0, k1, k2, k3, k4, k5⟩ := box_shaft w S p q c d
  have hbk := hb.bel hb1
  have HB := Lib.hid hb1
  have HBK := Lib.hid hbk
  clear hb hb1 hz1 hbk
  rcases Bool.eq_false_or_eq_true S.ok with hok | hok
  case inr =>
    have R1 := Lib.hid (show (0 : Int) = prV S n from by simp [prV, hok])
    have R2 := Lib.hid (show (0 : Int) = hrV S n from by simp [hrV, hok])
    have R3 := Lib.hid (show (20 : Int) = askErr S.ok (S.isFoot n) from by simp [askErr, hok])
    have ha : askErr S.ok (within n 0 ((S.F.length : Int) - 1)) = 20 := by rw [hok]; rfl
    have F0 : ∀ x : Ext w1, x.v.cell? ⟨w.heap.size, 0, none⟩ = some (.slice q S.R.length d) := fun x => (x.b.cell (p := ⟨w.heap.size, 0, none⟩) k5).trans k0
    have F1 : ∀ x : Ext w1, x.v.cell? ⟨w.heap.size, 1, none⟩ = some (.slice p S.F.length c) := fun x => (x.b.cell (p := ⟨w.heap.size, 1, none⟩) k5).trans k1
    have F2 : ∀ x : Ext w1, x.v.cell? ⟨w.heap.size, 2, none⟩ = some (.int .i64 S.D) := fun x => (x.b.cell (p := ⟨w.heap.size, 2, none⟩) k5).trans k2
    have F3 : ∀ x : Ext w1, x.v.cell? ⟨w.heap.size, 3, none⟩ = some (.int .i64 S.H) := fun x => (x.b.cell (p := ⟨w.heap.size, 3, none⟩) k5).trans k3
    have F4 : ∀ x : Ext w1, x.v.cell? ⟨w.heap.size, 4, none⟩ = some (.int .i64 S.T) := fun x => (x.b.cell (p := ⟨w.heap.size, 4, none⟩) k5).trans k4
    clear hok
    go_enter Tryd.func12, Tryd.ntmps12
    go_wp2
    refine quiet_lit (by kernel_rfl) (by kernel_rfl) ?_
    repeat (first | go_big_quiet_step (first | (go_at_call 39; exact quiet_x (isFootR_any _ _ _ _ _ _ _ _ _ hF)) | (go_at_call 38; exact quiet_x (askR_any S _ _ c d _ _ hF hR (HBK.out.bel (by rename_i x; exact x.b))))) | quiet_step (first | (go_at_call 39; exact quiet_x (isFootR_any _ _ _ _ _ _ _ _ _ hF)) | (go_at_call 38; exact quiet_x (askR_any S _ _ c d _ _ hF hR (HBK.out.bel (by rename_i x; exact x.b))))))
    refine wpQuiet_nil ?_
    intro w2 hw
    obtain ⟨⟨w2, hw⟩, rfl⟩ := hw
    have HW2 := Lib.hid hw; clear hw
    go_wp2
    (try simp only [Exit.inBlock, Exit.then]); refine bodyPost_ret (results_tmp3 rfl _ _ _) rfl ?_
    exact ⟨ret_3 R1.out R2.out (ha.trans R3.out), bT HB.out HW2.out⟩
  case inl =>
  cases hin : within n 0 ((S.F.length : Int) - 1) with
  | false =>
    have R1 := Lib.hid (show (0 : Int) = prV S n from by simp [prV, hok, Shaft.isFoot, hin])
    have R2 := Lib.hid (show (0 : Int) = hrV S n from by simp [hrV, hok, Shaft.isFoot, hin])
    have R3 := Lib.hid (show (1 : Int) = askErr S.ok (S.isFoot n) from by simp [askErr, hok, Shaft.isFoot, hin])
    have ha : askErr S.ok false = 1 := by rw [hok]; rfl
    have F0 : ∀ x : Ext w1, x.v.cell? ⟨w.heap.size, 0, none⟩ = some (.slice q S.R.length d) := fun x => (x.b.cell (p := ⟨w.heap.size, 0, none⟩) k5).trans k0
    have F1 : ∀ x : Ext w1, x.v.cell? ⟨w.heap.size, 1, none⟩ = some (.slice p S.F.length c) := fun x => (x.b.cell (p := ⟨w.heap.size, 1, none⟩) k5).trans k1
    have F2 : ∀ x : Ext w1, x.v.cell? ⟨w.heap.size, 2, none⟩ = some (.int .i64 S.D) := fun x => (x.b.cell (p := ⟨w.heap.size, 2, none⟩) k5).trans k2
    have F3 : ∀ x : Ext w1, x.v.cell? ⟨w.heap.size, 3, none⟩ = some (.int .i64 S.H) := fun x => (x.b.cell (p := ⟨w.heap.size, 3, none⟩) k5).trans k3
    have F4 : ∀ x : Ext w1, x.v.cell? ⟨w.heap.size, 4, none⟩ = some (.int .i64 S.T) := fun x => (x.b.cell (p := ⟨w.heap.size, 4, none⟩) k5).trans k4
    clear hok
    go_enter Tryd.func12, Tryd.ntmps12
    go_wp2
    refine quiet_lit (by kernel_rfl) (by kernel_rfl) ?_
    repeat (first | go_big_quiet_step (first | (go_at_call 39; exact quiet_x (isFootR_any _ _ _ _ _ _ _ _ _ hF)) | (go_at_call 38; exact quiet_x (askR_any S _ _ c d _ _ hF hR (HBK.out.bel (by rename_i x; exact x.b))))) | quiet_step (first | (go_at_call 39; exact quiet_x (isFootR_any _ _ _ _ _ _ _ _ _ hF)) | (go_at_call 38; exact quiet_x (askR_any S _ _ c d _ _ hF hR (HBK.out.bel (by rename_i x; exact x.b))))))
    refine wpQuiet_nil ?_
    intro w2 hw
    obtain ⟨⟨w2, hw⟩, rfl⟩ := hw
    have HW2 := Lib.hid hw; clear hw
    go_wp2
    (try simp only [Exit.inBlock, Exit.then]); refine bodyPost_ret (results_tmp3 rfl _ _ _) rfl ?_
    exact ⟨ret_3 R1.out R2.out (ha.trans R3.out), bT HB.out HW2.out⟩
  | true =>
  obtain ⟨i0, i1⟩ := within_iff.1 hin
  obtain ⟨k, rfl⟩ : ∃ k : Nat, n = (k : Int) := ⟨n.toNat, by omega⟩
  have hk : k < S.F.length := by omega
  have R1 := Lib.hid (show S.price k = prV S k from by simp [prV, hok, Shaft.isFoot, hin])
  have R2 := Lib.hid (show (S.rock k).h = hrV S k from by simp [hrV, hok, Shaft.isFoot, hin])
  have R3 := Lib.hid (show (0 : Int) = askErr S.ok (S.isFoot k) from by simp [askErr, hok, Shaft.isFoot, hin])
  have ha : askErr S.ok true = 0 := by rw [hok]; rfl
  have HOK := Lib.hid hok
  have fx : ∀ W, (Instr.field 55 (.agg #[.int .i64 (S.rock k).h, .int .i64 (S.rock k).p, .int .i64 (S.rock k).s, .int .i64 (S.rock k).e]) 0).run Tryd.prog W = .ok (.int .i64 (S.rock k).h) W := fun _ => by kernel_rfl
  have F0 : ∀ x : Ext w1, x.v.cell? ⟨w.heap.size, 0, none⟩ = some (.slice q S.R.length d) := fun x => (x.b.cell (p := ⟨w.heap.size, 0, none⟩) k5).trans k0
  have F1 : ∀ x : Ext w1, x.v.cell? ⟨w.heap.size, 1, none⟩ = some (.slice p S.F.length c) := fun x => (x.b.cell (p := ⟨w.heap.size, 1, none⟩) k5).trans k1
  have F2 : ∀ x : Ext w1, x.v.cell? ⟨w.heap.size, 2, none⟩ = some (.int .i64 S.D) := fun x => (x.b.cell (p := ⟨w.heap.size, 2, none⟩) k5).trans k2
  have F3 : ∀ x : Ext w1, x.v.cell? ⟨w.heap.size, 3, none⟩ = some (.int .i64 S.H) := fun x => (x.b.cell (p := ⟨w.heap.size, 3, none⟩) k5).trans k3
  have F4 : ∀ x : Ext w1, x.v.cell? ⟨w.heap.size, 4, none⟩ = some (.int .i64 S.T) := fun x => (x.b.cell (p := ⟨w.heap.size, 4, none⟩) k5).trans k4
  clear hok
  go_enter Tryd.func12, Tryd.ntmps12
  go_wp2
  refine quiet_lit (by kernel_rfl) (by kernel_rfl) ?_
  repeat (first | go_big_quiet_step (first | (go_at_call 39; exact quiet_x (isFootR_any _ _ _ _ _ _ _ _ _ hF)) | (go_at_call 38; exact quiet_x (askR_any S _ _ c d _ _ hF hR (HBK.out.bel (by rename_i x; exact x.b))))) | quiet_step (first | (go_at_call 39; exact quiet_x (isFootR_any _ _ _ _ _ _ _ _ _ hF)) | (go_at_call 38; exact quiet_x (askR_any S _ _ c d _ _ hF hR (HBK.out.bel (by rename_i x; exact x.b))))))
  refine wpQuiet_nil ?_
  intro w2 hw
  obtain ⟨⟨w2, hw⟩, rfl⟩ := hw
  have HW2 := Lib.hid hw; clear hw
  go_wp2
  have G0 : ∀ x : Ext w2, x.v.cell? ⟨w.heap.size, 0, none⟩ = some (.slice q S.R.length d) := fun x => F0 (x.up HW2.out)
  have G1 : ∀ x : Ext w2, x.v.cell? ⟨w.heap.size, 1, none⟩ = some (.slice p S.F.length c) := fun x => F1 (x.up HW2.out)
  have G2 : ∀ x : Ext w2, x.v.cell? ⟨w.heap.size, 2, none⟩ = some (.int .i64 S.D) := fun x => F2 (x.up HW2.out)
  have G3 : ∀ x : Ext w2, x.v.cell? ⟨w.heap.size, 3, none⟩ = some (.int .i64 S.H) := fun x => F3 (x.up HW2.out)
  have G4 : ∀ x : Ext w2, x.v.cell? ⟨w.heap.size, 4, none⟩ = some (.int .i64 S.T) := fun x => F4 (x.up HW2.out)
  clear F0 F1 F2 F3 F4
  refine quiet_lit (by kernel_rfl) (by kernel_rfl) ?_
  repeat (first | go_big_quiet_step (first | (go_at_call 40; exact quiet_x (priceOfR_any S _ _ c d k _ HOK.out hk (HBK.out.bel (bT HW2.out (by rename_i x; exact x.b))))) | (go_at_call 41; exact quiet_x (rockR_any S _ _ c d k _ HOK.out hk (HBK.out.bel (bT HW2.out (by rename_i x; exact x.b)))))) | quiet_step (first | (go_at_call 40; exact quiet_x (priceOfR_any S _ _ c d k _ HOK.out hk (HBK.out.bel (bT HW2.out (by rename_i x; exact x.b))))) | (go_at_call 41; exact quiet_x (rockR_any S _ _ c d k _ HOK.out hk (HBK.out.bel (bT HW2.out (by rename_i x; exact x.b)))))))
  refine wpQuiet_nil ?_
  intro w3 hw
  obtain ⟨⟨w3, hw⟩, rfl⟩ := hw
  have HW3 := Lib.hid hw; clear hw
  go_wp2
  (try simp only [Exit.inBlock, Exit.then]); refine bodyPost_ret (results_tmp3 rfl _ _ _) rfl ?_
  exact ⟨ret_3 R1.out R2.out R3.out, bT HB.out (bT HW2.out HW3.out)⟩
end Go.Proofs.YtaaocomgmacjnabDoor
