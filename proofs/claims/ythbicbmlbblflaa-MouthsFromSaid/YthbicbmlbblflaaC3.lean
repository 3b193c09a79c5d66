/- Boxes of mouths: the laws' gauges. -/
import Derived.Test.YthbicbmlbblflaaC2

set_option linter.unusedSimpArgs false

set_option linter.unusedVariables false

namespace Go.Proofs.Ythbicbmlbblflaa

open Go.RowKit

set_option maxRecDepth 100000 in
set_option maxHeartbeats 4000000 in
theorem gaugesL_any (D : Bx) (p q : Option Addr) (c d F : Nat) (w : World) (hok : D.ok = true) (hF : F ≤ 40) (hi : BxIn w w.heap.size D p q) :
    Calls Try.prog 47 #[.agg #[.slice p D.n c, .slice q D.m d], .int .i64 (F : Int)] w fun e w' => ∃ y c', e = .returned (.tuple #[.slice y D.n c', .bool true]) ∧ New w w' D.n (gv D F) y := by
  obtain ⟨w1, x, hw1, hb1, hz1, F0, F1⟩ := box_bx w p q D.n D.m c d
  have HB := Lib.hid hb1
  have HI : Hid (∀ x : Ext w1, BxIn x.v x.v.heap.size D p q) := fun x => (hi.bel hb1).bel x.b
  have HOK := Lib.hid hok
  have hn5 := (Bx.ok_parts hok).1
  have HM := Lib.hid ((Bx.ok_parts hok).2.1)
  clear hb1 hz1 hi hok
  go_enter Try.func47, Try.ntmps47
  go_wp2_with fail
  refine (gaugesP_ok D p q c d F _ HOK.out hF (HI.out _)).mono ?_
  rintro e w' ⟨y, c', rfl, hc⟩
  have HC := Lib.hid hc
  have HX := Lib.hid (bT x.b hc.below)
  obtain ⟨z0, hz0⟩ := rebase w'
  have F0' : ∀ z : Ext w', z.v.cell? ⟨w.heap.size, 0, none⟩ = some (.slice p D.n c) := fun z => F0 (z.up HX.out)
  have F1' : ∀ z : Ext w', z.v.cell? ⟨w.heap.size, 1, none⟩ = some (.slice q D.m d) := fun z => F1 (z.up HX.out)
  have HI' : Hid (∀ z : Ext w', BxIn z.v z.v.heap.size D p q) := fun z => HI.out (z.up HX.out)
  clear hc F0 F1 hw1
  rw [hz0]; clear hz0
  go_wp2
  go_loopw [8] (fun i wr => ∃ k : Nat, i = .int .i64 k ∧ k ≤ D.n ∧ ∃ z : Ext w', wr = z.v) (fun i _ => D.n - (intOf i).toNat)
  case atStart => exact ⟨0, rfl, Nat.zero_le _, z0, rfl⟩
  case round =>
    obtain ⟨k, rfl, hk, z, rfl⟩ := hrel
    clear z0
    by_cases hlt : k < D.n
    · obtain ⟨g, rfl, _, _, _, _⟩ := HC.out.here (by omega)
      obtain ⟨b1, of1, rfl, _, _⟩ := (HI'.out z).s (by omega)
      obtain ⟨b2, of2, rfl, _, _⟩ := (HI'.out z).o (by have := HM.out; omega)
      have E0 : ∀ z : Ext w', z.v.cell? ⟨b1, of1 + k, none⟩ = some (.int .i64 (D.sh k)) := fun z => ((HI'.out z).s.cell hlt).2
      have E1 : ∀ z : Ext w', z.v.cell? ⟨b2, of2 + k, none⟩ = some (.int .i64 (D.mo k)) := fun z => ((HI'.out z).o.cell (by have := HM.out; omega)).2
      have E2 : ∀ z : Ext w', z.v.cell? ⟨g, k, none⟩ = some (.int .i64 (gv D F k)) := fun z => by have := ((HC.out.num.bel z.b).cell hlt).2; rwa [Nat.zero_add] at this
      have hkm : (k : Int) < (D.n : Int) := by omega
      have hkm2 : (k : Int) < (D.m : Int) := by have := HM.out; omega
      obtain ⟨v1, v2, v3, v4⟩ := gv_bd HOK.out F k
      have hwi : within (gv D F k) 0 (D.mo k) = true := within_tt v1 (v2 hlt)
      by_cases s0 : D.sh k = 0
      · rw [v4 s0] at E2 hwi
        rw [s0] at E0
        clear v1 v2 v3 v4 s0
        go_wp2
        refine quiet_e (by kernel_rfl) (by kernel_rfl) ?_
        repeat (first | go_big_quiet_step ((first | (go_at_call 52; exact quiet_s (within1_any _ _ _ _)))) | quiet_step ((first | (go_at_call 52; exact quiet_s (within1_any _ _ _ _)))))
        refine wpQuiet_nil ?_
        intro w6 hw6
        obtain ⟨y2, rfl⟩ := hw6
        go_wp2
        go_roundw
        case rel => exact ⟨k + 1, by go_num, hlt, y2, rfl⟩
        case measure => first | (simp [intOf]; done) | (simp [intOf]; omega)
      · have j0 : (D.sh k == 0) = false := by simpa using s0
        clear v1 v2 v3 v4 s0
        go_wp2
        refine quiet_e (by kernel_rfl) (by kernel_rfl) ?_
        repeat (first | go_big_quiet_step ((first | (go_at_call 52; exact quiet_s (within1_any _ _ _ _)))) | quiet_step ((first | (go_at_call 52; exact quiet_s (within1_any _ _ _ _)))))
        refine wpQuiet_nil ?_
        intro w6 hw6
        obtain ⟨y2, rfl⟩ := hw6
        go_wp2
        go_roundw
        case rel => exact ⟨k + 1, by go_num, hlt, y2, rfl⟩
        case measure => first | (simp [intOf]; done) | (simp [intOf]; omega)
    · have j : decide ((k : Int) < (D.n : Int)) = false := by simp; omega
      have HR : Hid (New w z.v D.n (gv D F) y) := ⟨bT HB.out (bT HX.out z.b), fun h0 => by
        obtain ⟨g, e, h1, h2, h3, h4⟩ := HC.out.here h0
        exact ⟨g, e, Nat.le_trans (bT HB.out x.b).size h1, Nat.lt_of_lt_of_le h2 z.b.size, h3.below z.b h2, fun i => (z.b.frozen (p := ⟨g, i, none⟩) h2).trans (h4 i)⟩⟩
      go_wp2
      go_ret2
      exact ⟨_, _, rfl, HR.out⟩
end Go.Proofs.Ythbicbmlbblflaa
