/- Shafts: Same of two equal shafts; works says true (the evaluator); two shafts in their variables. -/
import Derived.Test.YtaaocomgmacjnabDoorA8

import Derived.Test.YtaaocomgmacjnabDoorE15

set_option linter.unusedSimpArgs false

set_option linter.unusedVariables false

namespace Go.Proofs.YtaaocomgmacjnabDoor

open Go.RowKit

set_option maxRecDepth 100000 in
set_option maxHeartbeats 2000000 in
/-- Same, of two equal shafts -/
theorem same_any (S : Shaft) (p q : Option Addr) (c d : Nat) (p' q' : Option Addr) (c' d' : Nat) (w : World) (hF : S.F.length ≤ 1000000) (hR : S.R.length ≤ 1000000) (ht : ShaftIn w w.heap.size S p q) (ht' : ShaftIn w w.heap.size S p' q') :
    Calls Tryd.prog 13 #[.agg #[.slice q S.R.length d, .slice p S.F.length c, .int .i64 S.D, .int .i64 S.H, .int .i64 S.T], .agg #[.slice q' S.R.length d', .slice p' S.F.length c', .int .i64 S.D, .int .i64 S.H, .int .i64 S.T]] w fun e w' => e = .returned (.bool true) ∧ Below w.heap.size w w' := by
  obtain ⟨w1, hw1, hb1, hz1, k0, k1, k2, k3, k4, l1⟩ := box_shaft w S p q c d
  obtain ⟨w2, hw2, hb2, hz2, m0, m1, m2, m3, m4, l3⟩ := box_shaft w1 S p' q' c' d'
  have l2 : w.heap.size < w2.heap.size := by omega
  have n0 := (hb2.cell (p := ⟨w.heap.size, 0, none⟩) l1).trans k0
  have n1 := (hb2.cell (p := ⟨w.heap.size, 1, none⟩) l1).trans k1
  have n2 := (hb2.cell (p := ⟨w.heap.size, 2, none⟩) l1).trans k2
  have n3 := (hb2.cell (p := ⟨w.heap.size, 3, none⟩) l1).trans k3
  have n4 := (hb2.cell (p := ⟨w.heap.size, 4, none⟩) l1).trans k4
  have HT := Lib.hid ((ht.bel hb1).bel hb2)
  have HT' := Lib.hid ((ht'.bel hb1).bel hb2)
  have HB := Lib.hid (bT hb1 hb2)
  have HI : Calls Tryd.prog 20 #[.slice p S.F.length c, .slice p' S.F.length c'] w2 fun e w' => e = .returned (.bool (decide (S.F = S.F))) ∧ ∃ n, w' = w2.drewN n :=
    sameInts_any S.F S.F p p' c c' w2 hF hF (fun h => let ⟨b, o, e, a⟩ := HT.out.f h; ⟨b, o, e, a⟩) (fun h => let ⟨b, o, e, a⟩ := HT'.out.f h; ⟨b, o, e, a⟩)
  have HSI := Lib.hid HI
  have d0 : (S.D != S.D) = false := by simp
  have d1 : (S.H != S.H) = false := by simp
  have d2 : (S.T != S.T) = false := by simp
  have d3 : ((S.R.length : Int) != (S.R.length : Int)) = false := by simp
  clear k0 k1 k2 k3 k4 ht ht' hb1 hb2 hz1 hz2 l1 HI
  go_enter Tryd.func13, Tryd.ntmps13
  go_wp2_with (go_at_call 20; refine HSI.out.mono ?_; rintro e w3 ⟨rfl, nn, rfl⟩)
  clear hw1 hw2
  go_loopw [5] (fun i wr => ∃ k : Nat, i = .int .i64 k ∧ k ≤ S.R.length ∧ Below w2.heap.size w2 wr) (fun i _ => S.R.length - (intOf i).toNat)
  case atStart => exact ⟨0, rfl, Nat.zero_le _, bD (Below.refl _ _) _⟩
  case round =>
    obtain ⟨k, rfl, hk, hb⟩ := hrel
    have HBB := Lib.hid hb; clear hb
    have g0 := (HBB.out.cell (p := ⟨w.heap.size, 0, none⟩) l2).trans n0
    have g1 := (HBB.out.cell (p := ⟨w1.heap.size, 0, none⟩) l3).trans m0
    by_cases hlt : k < S.R.length
    · obtain ⟨b, o, rfl, hbl, hsn⟩ := (HT.out.bel HBB.out).s (by omega)
      obtain ⟨b', o', rfl, hbl', hsn'⟩ := (HT'.out.bel HBB.out).s (by omega)
      have e0 := hsn.c0 k hlt
      have e1 := hsn.c1 k hlt
      have e2 := hsn.c2 k hlt
      have e3 := hsn.c3 k hlt
      have f0 := hsn'.c0 k hlt
      have f1 := hsn'.c1 k hlt
      have f2 := hsn'.c2 k hlt
      have f3 := hsn'.c3 k hlt
      have j1 : decide ((k : Int) < (S.R.length : Int)) = true := by simp; omega
      clear hsn hsn' n0 n1 n2 n3 n4 m0 m1 m2 m3 m4
      go_wp2
      go_quiet (fail)
      go_wp2
      go_roundw
      case rel => exact ⟨k + 1, by go_num, hlt, bD HBB.out _⟩
      case measure => simp [intOf]; omega
    · have j1 : decide ((k : Int) < (S.R.length : Int)) = false := by simp; omega
      go_wp2
      go_ret
      exact ⟨rfl, bT HB.out HBB.out⟩

/-- what the package variables hold -/
def laid : Globs := [(0, [.int .i64 (-1), .int .i64 (-1)])]
theorem GlobsOk.below {gs : Globs} {w w' : World} (h : GlobsOk gs w) (hb : Below w.heap.size w w') : GlobsOk gs w' := fun p hp => by
  obtain ⟨e, he⟩ := h p hp
  exact ⟨e, (hb.block p.1 (Array.getElem?_eq_some_iff.1 he).1).trans he⟩
set_option maxRecDepth 100000 in
theorem works_ex (w : World) (hg : GlobsOk laid w) : Calls Tryd.prog 7 #[] w fun e w' => e = .returned (.bool true) ∧ Below w.heap.size w w' :=
  says_trueG (N := 100000) (d := 60) (next := 10) (by kernel_rfl) (by kernel_rfl) w hg

/-- a shaft and its copy lie in their variables -/
structure TwoS (b b' : Nat) (S : Shaft) (p q p' q' : Option Addr) (c d c' d' : Nat) (V : World) : Prop where
  t0 : V.cell? ⟨b, 0, none⟩ = some (.slice q S.R.length d)
  t1 : V.cell? ⟨b, 1, none⟩ = some (.slice p S.F.length c)
  t2 : V.cell? ⟨b, 2, none⟩ = some (.int .i64 S.D)
  t3 : V.cell? ⟨b, 3, none⟩ = some (.int .i64 S.H)
  t4 : V.cell? ⟨b, 4, none⟩ = some (.int .i64 S.T)
  q0 : V.cell? ⟨b', 0, none⟩ = some (.slice q' S.R.length d')
  q1 : V.cell? ⟨b', 1, none⟩ = some (.slice p' S.F.length c')
  q2 : V.cell? ⟨b', 2, none⟩ = some (.int .i64 S.D)
  q3 : V.cell? ⟨b', 3, none⟩ = some (.int .i64 S.H)
  q4 : V.cell? ⟨b', 4, none⟩ = some (.int .i64 S.T)
  lt : b < V.heap.size
  lt' : b' < V.heap.size
theorem TwoS.below {b b' : Nat} {S : Shaft} {p q p' q' : Option Addr} {c d c' d' : Nat} {V V' : World} (h : TwoS b b' S p q p' q' c d c' d' V) (hb : Below V.heap.size V V') : TwoS b b' S p q p' q' c d c' d' V' :=
  have l1 := h.lt
  have l2 := h.lt'
  ⟨(hb.cell l1).trans h.t0, (hb.cell l1).trans h.t1, (hb.cell l1).trans h.t2, (hb.cell l1).trans h.t3, (hb.cell l1).trans h.t4,
   (hb.cell l2).trans h.q0, (hb.cell l2).trans h.q1, (hb.cell l2).trans h.q2, (hb.cell l2).trans h.q3, (hb.cell l2).trans h.q4,
    Nat.lt_of_lt_of_le h.lt hb.size, Nat.lt_of_lt_of_le h.lt' hb.size⟩
end Go.Proofs.YtaaocomgmacjnabDoor
