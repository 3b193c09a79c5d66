/- Books of dowsers: Same of two equal books. -/
import Derived.Test.YtaaocomgmacjnaaA8

set_option linter.unusedSimpArgs false

set_option linter.unusedVariables false

namespace Go.Proofs.Ytaaocomgmacjnaa

open Go.RowKit

set_option maxRecDepth 100000 in
set_option maxHeartbeats 2000000 in
/-- Same, of two equal books -/
theorem same_any (B : Book) (p q : Option Addr) (c d : Nat) (p' q' : Option Addr) (c' d' : Nat) (w : World) (hF : B.F.length ≤ 1000000) (hS : B.S.length ≤ 1000000) (ht : BookIn w w.heap.size B p q) (ht' : BookIn w w.heap.size B p' q') :
    Calls Try.prog 23 #[.agg #[.int .i64 B.D, .slice p B.F.length c, .int .i64 B.N, .slice q B.S.length d, .int .i64 B.P], .agg #[.int .i64 B.D, .slice p' B.F.length c', .int .i64 B.N, .slice q' B.S.length d', .int .i64 B.P]] w fun e w' => e = .returned (.bool true) ∧ Below w.heap.size w w' := by
  obtain ⟨w1, hw1, hb1, hz1, k0, k1, k2, k3, k4, l1⟩ := box_book w B p q c d
  obtain ⟨w2, hw2, hb2, hz2, m0, m1, m2, m3, m4, l3⟩ := box_book w1 B p' q' c' d'
  have l2 : w.heap.size < w2.heap.size := by omega
  have n0 := (hb2.cell (p := ⟨w.heap.size, 0, none⟩) l1).trans k0
  have n1 := (hb2.cell (p := ⟨w.heap.size, 1, none⟩) l1).trans k1
  have n2 := (hb2.cell (p := ⟨w.heap.size, 2, none⟩) l1).trans k2
  have n3 := (hb2.cell (p := ⟨w.heap.size, 3, none⟩) l1).trans k3
  have n4 := (hb2.cell (p := ⟨w.heap.size, 4, none⟩) l1).trans k4
  have HT := Lib.hid ((ht.bel hb1).bel hb2)
  have HT' := Lib.hid ((ht'.bel hb1).bel hb2)
  have HB := Lib.hid (bT hb1 hb2)
  have HI : Calls Try.prog 22 #[.slice p B.F.length c, .slice p' B.F.length c'] w2 fun e w' => e = .returned (.bool (decide (B.F = B.F))) ∧ ∃ n, w' = w2.drewN n :=
    sameInts_any B.F B.F p p' c c' w2 hF hF (fun h => let ⟨b, o, e, a⟩ := HT.out.f h; ⟨b, o, e, a⟩) (fun h => let ⟨b, o, e, a⟩ := HT'.out.f h; ⟨b, o, e, a⟩)
  have HSI := Lib.hid HI
  have d0 : (B.D != B.D) = false := by simp
  have d1 : (B.N != B.N) = false := by simp
  have d2 : (B.P != B.P) = false := by simp
  have d3 : ((B.S.length : Int) != (B.S.length : Int)) = false := by simp
  clear k0 k1 k2 k3 k4 ht ht' hb1 hb2 hz1 hz2 l1 HI
  go_enter Try.func23, Try.ntmps23
  go_wp2_with (go_at_call 22; refine HSI.out.mono ?_; rintro e w3 ⟨rfl, nn, rfl⟩)
  clear hw1 hw2
  go_loopw [5] (fun i wr => ∃ k : Nat, i = .int .i64 k ∧ k ≤ B.S.length ∧ Below w2.heap.size w2 wr) (fun i _ => B.S.length - (intOf i).toNat)
  case atStart => exact ⟨0, rfl, Nat.zero_le _, bD (Below.refl _ _) _⟩
  case round =>
    obtain ⟨k, rfl, hk, hb⟩ := hrel
    have HBB := Lib.hid hb; clear hb
    have g0 := (HBB.out.cell (p := ⟨w.heap.size, 3, none⟩) l2).trans n3
    have g1 := (HBB.out.cell (p := ⟨w1.heap.size, 3, none⟩) l3).trans m3
    by_cases hlt : k < B.S.length
    · obtain ⟨b, o, rfl, hbl, hsn⟩ := (HT.out.bel HBB.out).s (by omega)
      obtain ⟨b', o', rfl, hbl', hsn'⟩ := (HT'.out.bel HBB.out).s (by omega)
      have e0 := hsn.c0 k hlt
      have e1 := hsn.c1 k hlt
      have e2 := hsn.c2 k hlt
      have e3 := hsn.c3 k hlt
      have f0 := hsn'.c0 k hlt
      have f1 := hsn'.c1 k hlt
      have f2 := hsn'.c2 k hlt
      have f3 := hsn'.c3 k hlt
      have j1 : decide ((k : Int) < (B.S.length : Int)) = true := by simp; omega
      clear hsn hsn' n0 n1 n2 n3 n4 m0 m1 m2 m3 m4
      go_wp2
      go_quiet (fail)
      go_wp2
      go_roundw
      case rel => exact ⟨k + 1, by go_num, hlt, bD HBB.out _⟩
      case measure => simp [intOf]; omega
    · have j1 : decide ((k : Int) < (B.S.length : Int)) = false := by simp; omega
      go_wp2
      go_ret
      exact ⟨rfl, bT HB.out HBB.out⟩
end Go.Proofs.Ytaaocomgmacjnaa
