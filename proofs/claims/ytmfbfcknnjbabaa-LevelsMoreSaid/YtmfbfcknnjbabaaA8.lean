/- The contracts of Holds, of both sides, and of Same. -/
import Derived.Test.YtmfbfcknnjbabaaA7
set_option linter.unusedSimpArgs false
set_option linter.unusedVariables false
namespace Go.Proofs.Ytmfbfcknnjbabaa
open Go.RowKit

theorem box_town (w : World) (W : Int) (p q : Option Addr) (m n c d : Nat) :
    ∃ w1, w.alloc (Obj.cells #[Value.int IntKind.i64 W, Value.slice p m c, Value.slice q n d] 25) = w1 ∧ Below w.heap.size w w1 ∧ w1.heap.size = w.heap.size + 1 ∧
      w1.cell? ⟨w.heap.size, 0, none⟩ = some (.int .i64 W) ∧ w1.cell? ⟨w.heap.size, 1, none⟩ = some (.slice p m c) ∧ w1.cell? ⟨w.heap.size, 2, none⟩ = some (.slice q n d) :=
  ⟨_, rfl, bA (Below.refl _ _) _, by simp, by go_simp, by go_simp, by go_simp⟩

/-- levels.Holds -/
theorem holdsP_any (T : Town) (p q : Option Addr) (c d : Nat) (xs : List Int) (x : Option Addr) (cx : Nat) (w : World) (hs : T.s.length ≤ 1000000) (hr : T.r.length ≤ 1000000) (hx : xs.length ≤ 1000000) (ht : TownIn w w.heap.size T p q)
    (h1 : 0 < xs.length → ∃ b o, x = some ⟨b, o, none⟩ ∧ IntsAt w w.heap.size b o xs) :
    Calls Try.prog 18 #[.agg #[.int .i64 T.W, .slice p T.s.length c, .slice q T.r.length d], .slice x xs.length cx] w fun e w' => e = .returned (.tuple #[.bool (T.ok && truth T xs), .int .i64 (vErr T.ok)]) ∧ Below w.heap.size w w' := by
  obtain ⟨w1, hw1, hb, _, k0, k1, k2⟩ := box_town w T.W p q T.s.length T.r.length c d
  have hz := hb.size
  have hv := valid_any T p q c d w1 hs hr ((ht.below hb).mono hz)
  by_cases hok : T.ok = true
  · rw [hok] at hv ⊢
    have htr : ∀ w2, Below w1.heap.size w1 w2 → Calls Try.prog 57 #[.agg #[.int .i64 T.W, .slice p T.s.length c, .slice q T.r.length d], .slice x xs.length cx] w2 fun e w' => e = .returned (.bool (truth T xs)) ∧ Below w2.heap.size w2 w' := fun w2 h2 => by
      have hb2 := bT hb h2
      refine isTruthP_any T p q c d xs x cx w2 hx hok ((ht.below hb2).mono hb2.size) fun h => ?_
      obtain ⟨b, o, e, hi⟩ := h1 h
      exact ⟨b, o, e, (hi.below hb2).mono hb2.size⟩
    have HV := Lib.hid hv; have HTR := Lib.hid htr; have HB := Lib.hid hb
    have hlt : w.heap.size < w1.heap.size := by omega
    clear hv htr hb hz ht h1
    go_enter Try.func18, Try.ntmps18
    go_wp2_with (go_at_call 56; refine HV.out.mono ?_; rintro e w2 ⟨rfl, hb2⟩; have c0 := (hb2.cell (p := ⟨w.heap.size, 0, none⟩) hlt).trans k0; have c1 := (hb2.cell (p := ⟨w.heap.size, 1, none⟩) hlt).trans k1; have c2 := (hb2.cell (p := ⟨w.heap.size, 2, none⟩) hlt).trans k2)
    go_wp2_with (go_at_call 57; refine (HTR.out _ (by assumption)).mono ?_; rintro e w3 ⟨rfl, hb3⟩)
    go_ret2
    exact ⟨by simp [vErr], bT HB.out (bT hb2 hb3)⟩
  · have hok := Bool.eq_false_iff.2 hok
    rw [hok] at hv ⊢
    have HV := Lib.hid hv; have HB := Lib.hid hb
    clear hv hb hz ht h1
    go_enter Try.func18, Try.ntmps18
    go_wp2_with (go_at_call 56; refine HV.out.mono ?_; rintro e w2 ⟨rfl, hb2⟩)
    go_ret2
    exact ⟨by simp [vErr], bT HB.out hb2⟩

theorem vErr_t : vErr true = 0 := rfl
theorem vErr_f : vErr false = 10 := rfl

/-- steeningref01.Holds -/
theorem holdsR_any (T : Town) (p q : Option Addr) (c d : Nat) (xs : List Int) (x : Option Addr) (cx : Nat) (w : World) (hs : T.s.length ≤ 1000000) (hr : T.r.length ≤ 1000000) (hx : xs.length ≤ 1000000) (ht : TownIn w w.heap.size T p q)
    (h1 : 0 < xs.length → ∃ b o, x = some ⟨b, o, none⟩ ∧ IntsAt w w.heap.size b o xs) :
    Calls Try.prog 19 #[.agg #[.int .i64 T.W, .slice p T.s.length c, .slice q T.r.length d], .slice x xs.length cx] w fun e w' => e = .returned (.tuple #[.bool (T.ok && truth T xs), .int .i64 (vErr T.ok)]) ∧ Below w.heap.size w w' := by
  obtain ⟨w1, hw1, hb, _, k0, k1, k2⟩ := box_town w T.W p q T.s.length T.r.length c d
  have hz := hb.size
  have hv := checkR_any T p q c d w1 hs hr ((ht.below hb).mono hz)
  by_cases hok : T.ok = true
  · rw [hok, vErr_t] at hv
    rw [hok, vErr_t]
    have htr : ∀ w2, Below w1.heap.size w1 w2 → Calls Try.prog 46 #[.agg #[.int .i64 T.W, .slice p T.s.length c, .slice q T.r.length d], .slice x xs.length cx] w2 fun e w' => e = .returned (.bool (truth T xs)) ∧ Below w2.heap.size w2 w' := fun w2 h2 => by
      have hb2 := bT hb h2
      refine isTruthR_any T p q c d xs x cx w2 hx hok ((ht.below hb2).mono hb2.size) fun h => ?_
      obtain ⟨b, o, e, hi⟩ := h1 h
      exact ⟨b, o, e, (hi.below hb2).mono hb2.size⟩
    have HV := Lib.hid hv; have HTR := Lib.hid htr; have HB := Lib.hid hb
    have hlt : w.heap.size < w1.heap.size := by omega
    clear hv htr hb hz ht h1
    go_enter Try.func19, Try.ntmps19
    go_wp2_with (first | (go_at_call 21; refine HV.out.mono ?_; rintro e w2 ⟨rfl, hb2⟩; have c0 := (hb2.cell (p := ⟨w.heap.size, 0, none⟩) hlt).trans k0; have c1 := (hb2.cell (p := ⟨w.heap.size, 1, none⟩) hlt).trans k1; have c2 := (hb2.cell (p := ⟨w.heap.size, 2, none⟩) hlt).trans k2) | (go_at_call 46; refine (HTR.out _ (by assumption)).mono ?_; rintro e w3 ⟨rfl, hb3⟩))
    go_ret2
    exact ⟨by simp, bT HB.out (bT hb2 hb3)⟩
  · have hok := Bool.eq_false_iff.2 hok
    rw [hok, vErr_f] at hv
    rw [hok, vErr_f]
    have HV := Lib.hid hv; have HB := Lib.hid hb
    clear hv hb hz ht h1
    go_enter Try.func19, Try.ntmps19
    go_wp2_with (go_at_call 21; refine HV.out.mono ?_; rintro e w2 ⟨rfl, hb2⟩)
    go_ret2
    exact ⟨by simp, bT HB.out hb2⟩

set_option maxRecDepth 100000 in
set_option maxHeartbeats 800000 in
/-- Same, of two equal towns -/
theorem same_any (T : Town) (p q : Option Addr) (c d : Nat) (p' q' : Option Addr) (c' d' : Nat) (w : World) (hs : T.s.length ≤ 1000000) (hr : T.r.length ≤ 1000000) (ht : TownIn w w.heap.size T p q) (ht' : TownIn w w.heap.size T p' q') :
    Calls Try.prog 22 #[.agg #[.int .i64 T.W, .slice p T.s.length c, .slice q T.r.length d], .agg #[.int .i64 T.W, .slice p' T.s.length c', .slice q' T.r.length d']] w fun e w' => e = .returned (.bool true) ∧ Below w.heap.size w w' := by
  obtain ⟨w1, hw1, hb, hz1, k0, k1, k2⟩ := box_town w T.W p q T.s.length T.r.length c d
  obtain ⟨w2, hw2, hb2, hz2, m0, m1, m2⟩ := box_town w1 T.W p' q' T.s.length T.r.length c' d'
  have l1 : w.heap.size < w1.heap.size := by omega
  have l2 : w.heap.size < w2.heap.size := by omega
  have l3 : w1.heap.size < w2.heap.size := by omega
  have n0 := (hb2.cell (p := ⟨w.heap.size, 0, none⟩) l1).trans k0
  have n1 := (hb2.cell (p := ⟨w.heap.size, 1, none⟩) l1).trans k1
  have n2 := (hb2.cell (p := ⟨w.heap.size, 2, none⟩) l1).trans k2
  have HT := Lib.hid ((ht.below (bT hb hb2)).mono (B' := w2.heap.size) (by omega))
  have HT' := Lib.hid ((ht'.below (bT hb hb2)).mono (B' := w2.heap.size) (by omega))
  have HB := Lib.hid (bT hb hb2)
  have d0 : (T.W != T.W) = false := by simp
  have d1 : ((T.s.length : Int) != (T.s.length : Int)) = false := by simp
  have d2 : ((T.r.length : Int) != (T.r.length : Int)) = false := by simp
  clear k0 k1 k2 ht ht' hb hb2 hz1 hz2 l1
  go_enter Try.func22, Try.ntmps22
  go_wp2
  clear hw1 hw2
  go_loopw [5] (fun i wr => ∃ k : Nat, i = .int .i64 k ∧ k ≤ T.s.length ∧ Below w2.heap.size w2 wr) (fun i _ => T.s.length - (intOf i).toNat)
  case atStart => exact ⟨0, rfl, Nat.zero_le _, Below.refl _ _⟩
  case round =>
    obtain ⟨k, rfl, hk, hb⟩ := hrel
    have HBB := Lib.hid hb; clear hb
    have g0 := (HBB.out.cell (p := ⟨w.heap.size, 1, none⟩) l2).trans n1
    have g1 := (HBB.out.cell (p := ⟨w1.heap.size, 1, none⟩) l3).trans m1
    by_cases hlt : k < T.s.length
    · obtain ⟨b, o, rfl, hbl, hsn⟩ := (HT.out.below HBB.out).s (by omega)
      obtain ⟨b', o', rfl, hbl', hsn'⟩ := (HT'.out.below HBB.out).s (by omega)
      have e0 := hsn.c0 k hlt
      have e1 := hsn.c1 k hlt
      have e2 := hsn.c2 k hlt
      have f0 := hsn'.c0 k hlt
      have f1 := hsn'.c1 k hlt
      have f2 := hsn'.c2 k hlt
      clear hsn hsn' n0 n1 n2 m0 m1 m2
      go_wp2
      go_quiet (fail)
      go_wp2
      go_roundw
      case rel => exact ⟨k + 1, by go_num, hlt, bD HBB.out _⟩
      case measure => simp [intOf]; omega
    · have g2 := (HBB.out.cell (p := ⟨w.heap.size, 2, none⟩) l2).trans n2
      have g3 := (HBB.out.cell (p := ⟨w1.heap.size, 2, none⟩) l3).trans m2
      go_wp2
      obtain ⟨wa, rfl⟩ : ∃ wa, wa = wr := ⟨_, rfl⟩
      clear hk hlt g0 g1 g2 g3
      go_loopw [6] (fun i wr => ∃ k : Nat, i = .int .i64 k ∧ k ≤ T.r.length ∧ Below w2.heap.size w2 wr) (fun i _ => T.r.length - (intOf i).toNat)
      case atStart => exact ⟨0, rfl, Nat.zero_le _, HBB.out⟩
      case round =>
        clear HBB
        obtain ⟨k, rfl, hk, hb⟩ := hrel
        have HBB := Lib.hid hb; clear hb
        have g0 := (HBB.out.cell (p := ⟨w.heap.size, 2, none⟩) l2).trans n2
        have g1 := (HBB.out.cell (p := ⟨w1.heap.size, 2, none⟩) l3).trans m2
        by_cases hlt : k < T.r.length
        · obtain ⟨b, o, rfl, hbl, hsn⟩ := (HT.out.below HBB.out).r (by omega)
          obtain ⟨b', o', rfl, hbl', hsn'⟩ := (HT'.out.below HBB.out).r (by omega)
          have e0 := hsn.c0 k hlt
          have e1 := hsn.c1 k hlt
          have e2 := hsn.c2 k hlt
          have e3 := hsn.c3 k hlt
          have f0 := hsn'.c0 k hlt
          have f1 := hsn'.c1 k hlt
          have f2 := hsn'.c2 k hlt
          have f3 := hsn'.c3 k hlt
          clear hsn hsn' n0 n1 n2 m0 m1 m2
          go_wp2
          go_quiet (fail)
          go_wp2
          go_roundw
          case rel => exact ⟨k + 1, by go_num, hlt, bD HBB.out _⟩
          case measure => simp [intOf]; omega
        · go_wp2
          go_ret
          exact ⟨rfl, bT HB.out HBB.out⟩
end Go.Proofs.Ytmfbfcknnjbabaa
