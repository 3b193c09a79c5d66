/- Books of dowsers: what is gained at a place. -/
import Derived.Test.YtaaocomgmacjnaaD1

import Derived.Test.YtaaocomgmacjnaaX1

set_option linter.unusedSimpArgs false

set_option linter.unusedVariables false

namespace Go.Proofs.Ytaaocomgmacjnaa

open Go.RowKit

theorem BoxB.keep {w : World} {b g k : Nat} {B : Book} {p q : Option Addr} {c d : Nat} {v : Value} (h : BoxB w b B p q c d) (hg : g ≠ b) : BoxB (w.setCell ⟨g, k, none⟩ v) b B p q c d :=
  ⟨(World.cell?_setCell_other _ _ _ _ (by simp; try omega)).trans h.c0, (World.cell?_setCell_other _ _ _ _ (by simp; try omega)).trans h.c1, (World.cell?_setCell_other _ _ _ _ (by simp; try omega)).trans h.c2, (World.cell?_setCell_other _ _ _ _ (by simp; try omega)).trans h.c3, (World.cell?_setCell_other _ _ _ _ (by simp; try omega)).trans h.c4, by simpa using h.lt⟩
def gainTo (B : Book) (pl x : Int) : Nat → Nat → Int
  | 0, _ => 0
  | k + 1, m => gainTo B pl x k m + (match B.S[k]? with
    | none => 0
    | some s => if s.p = pl ∧ s.d = (m : Int) then pts B s x else 0)
theorem gain_step {B : Book} {pl x : Int} {k m : Nat} (hk : k < B.S.length) : gainTo B pl x (k + 1) m = gainTo B pl x k m + (if B.S[k].p = pl ∧ B.S[k].d = (m : Int) then pts B B.S[k] x else 0) := by
  simp [gainTo, List.getElem?_eq_getElem hk]
theorem pts_bd {B : Book} (hok : B.ok = true) {k : Nat} (hk : k < B.S.length) (x : Int) : -12 ≤ pts B B.S[k] x ∧ pts B B.S[k] x ≤ 12 := by
  obtain ⟨_, _, ⟨s4, s5⟩, s6, s7⟩ := B.ok_say hok hk
  obtain ⟨⟨t0, t1⟩, _⟩ := B.ok_parts hok
  unfold pts width; split <;> omega
theorem gain_bd {B : Book} (hok : B.ok = true) (pl x : Int) (m : Nat) : ∀ k, k ≤ B.S.length → -12 * (k : Int) ≤ gainTo B pl x k m ∧ gainTo B pl x k m ≤ 12 * (k : Int)
  | 0, _ => by simp [gainTo]
  | k + 1, h => by
    have ih := gain_bd hok pl x m k (by omega)
    have hp := pts_bd hok (show k < B.S.length by omega) x
    rw [gain_step (by omega)]
    split <;> omega
theorem book_two (w : World) (B : Book) (p q : Option Addr) (c d : Nat) : ∃ w3, (((w.alloc (Obj.cells #[Value.int IntKind.i64 B.D, Value.slice p B.F.length c, Value.int IntKind.i64 B.N, Value.slice q B.S.length d, Value.int IntKind.i64 B.P] 25)).alloc (Obj.cells #[Value.int IntKind.i64 0, Value.int IntKind.i64 0, Value.int IntKind.i64 0, Value.int IntKind.i64 0] 75)).alloc (Obj.cells #[Value.int IntKind.i64 0, Value.int IntKind.i64 0, Value.int IntKind.i64 0, Value.int IntKind.i64 0] 75)) = w3 ∧ Below w.heap.size w w3 ∧ w3.heap.size = w.heap.size + 3 ∧ BoxB w3 w.heap.size B p q c d ∧ Arr4 w3 (w.heap.size + 1) (fun _ => 0) ∧ Arr4 w3 (w.heap.size + 1 + 1) (fun _ => 0) :=
  ⟨_, rfl, bA (bA (bA (Below.refl _ _) _) _) _, by simp,
   ⟨by go_simp, by go_simp, by go_simp, by go_simp, by go_simp, by simp; omega⟩,
   ⟨fun m hm => by rcases (by omega : m = 0 ∨ m = 1 ∨ m = 2 ∨ m = 3) with rfl | rfl | rfl | rfl <;> go_simp, fun i => by go_simp, by simp⟩,
   ⟨fun m hm => by rcases (by omega : m = 0 ∨ m = 1 ∨ m = 2 ∨ m = 3) with rfl | rfl | rfl | rfl <;> go_simp, fun i => by go_simp, by simp⟩⟩

set_option maxRecDepth 100000 in
set_option maxHeartbeats 4000000 in
theorem gainOf_any (B : Book) (p q : Option Addr) (c d : Nat) (pl x : Int) (w : World) (hok : B.ok = true) (hS : B.S.length ≤ 1000) (ht : BookIn w w.heap.size B p q) :
    Calls Try.prog 74 #[.agg #[.int .i64 B.D, .slice p B.F.length c, .int .i64 B.N, .slice q B.S.length d, .int .i64 B.P], .int .i64 pl, .int .i64 x] w fun e w' => e = .returned (.agg #[.int .i64 (gainTo B pl x B.S.length 0), .int .i64 (gainTo B pl x B.S.length 1), .int .i64 (gainTo B pl x B.S.length 2), .int .i64 (gainTo B pl x B.S.length 3)]) ∧ Below w.heap.size w w' := by
  obtain ⟨w3, hw3, hB3, hsz, ⟨k0, k1, k2, k3, k4, k5⟩, hR, hA⟩ := book_two w B p q c d
  have HK := Lib.hid (show BoxB w3 w.heap.size B p q c d from ⟨k0, k1, k2, k3, k4, k5⟩)
  have HB3 := Lib.hid hB3; have HRR := Lib.hid hR; have HAA := Lib.hid hA; have HT := Lib.hid ht; have HOK := Lib.hid hok
  obtain ⟨⟨t0, t1⟩, _, ⟨t3, t4⟩, _⟩ := B.ok_parts hok
  clear hB3 hR hA ht hok
  go_enter Try.func74, Try.ntmps74
  go_wp2
  clear hw3 k0 k1 k2 k3 k4
  go_loopw [13] (fun i wr => ∃ k : Nat, i = .int .i64 k ∧ k ≤ B.S.length ∧ Below w.heap.size w wr ∧ BoxB wr w.heap.size B p q c d ∧ Arr4 wr (w.heap.size + 1) (fun _ => 0) ∧ Arr4 wr (w.heap.size + 1 + 1) (gainTo B pl x k)) (fun i _ => B.S.length - (intOf i).toNat)
  case atStart => exact ⟨0, rfl, by omega, HB3.out, HK.out, HRR.out, HAA.out.same (fun m _ => rfl)⟩
  case round =>
    obtain ⟨k, rfl, hk, hbw, hbox, h1, h2⟩ := hrel
    have HW := Lib.hid hbw; have H1 := Lib.hid h1; have H2 := Lib.hid h2; have HX := Lib.hid hbox
    have lr := h2.lt
    clear hbw h1 h2 hbox
    by_cases hlt : k < B.S.length
    · have jk : decide ((k : Int) < (B.S.length : Int)) = true := by simp; omega
      obtain ⟨b, o, rfl, hbl, hsn⟩ := (HT.out.bel HW.out).s (by omega)
      have e0 := hsn.c0 k hlt
      have e1 := hsn.c1 k hlt
      have e2 := hsn.c2 k hlt
      have e3 := hsn.c3 k hlt
      have hgs := fun m => gain_step (B := B) (pl := pl) (x := x) (m := m) hlt
      have hbd := fun m => gain_bd HOK.out pl x m k hk
      have hpb := pts_bd HOK.out hlt x
      obtain ⟨⟨s0, s1⟩, ⟨s2, s3⟩, ⟨s4, s5⟩, s6, s7⟩ := B.ok_say HOK.out hlt
      obtain ⟨s, hs⟩ : ∃ s, B.S[k] = s := ⟨_, rfl⟩
      rw [hs] at e0 e1 e2 e3 s0 s1 s2 s3 s4 s5 s6 s7 hpb
      have hgs' : ∀ m, gainTo B pl x (k + 1) m = gainTo B pl x k m + (if s.p = pl ∧ s.d = (m : Int) then pts B s x else 0) := fun m => by rw [← hs]; exact hgs m
      have hpts := fun V => pointsOf_any B p (some ⟨b, o, none⟩) c d s x V (by omega) (by omega) (by omega) (by omega) (by omega) (by omega)
      have HGS := Lib.hid hgs'; have HBD := Lib.hid hbd; have HPB := Lib.hid hpb
      clear hgs hgs' hbd hsn hs hpb
      by_cases hp : s.p = pl
      · obtain ⟨dd, hd⟩ : ∃ dd : Nat, s.d = (dd : Int) := ⟨s.d.toNat, by omega⟩
        have hdd : dd < 4 := by omega
        rw [hd] at hpts e0
        have HPT := Lib.hid hpts; clear hpts
        subst hp
        have jp : (s.p == s.p) = true := by simp
        have i0 : (0 : Int) ≤ (dd : Int) := by omega
        have i1 : (dd : Int) < 4 := by omega
        obtain ⟨w1, hw1, hb1, hz1, f0, f1, f2, f3⟩ := box_say wr (dd : Int) s.p s.l s.h
        have lf : wr.heap.size < w1.heap.size := by omega
        have hx1 := HX.out.below hb1
        obtain ⟨b0, b1, b2, b3, b4, b5⟩ := hx1
        have a0 := (H2.out.below hb1).cell dd hdd
        have az := (H2.out.below hb1).thaw
        have la := (H2.out.below hb1).lt
        have HS := Lib.hid (show IntKind.i64.wrap (gainTo B s.p x k dd + pts B s x) = gainTo B s.p x (k + 1) dd from by
          have := HBD.out dd; have := HPB.out
          rw [HGS.out dd, if_pos ⟨rfl, hd⟩]; exact IntWalk.i64_in _ (by omega))
        have HB1 := Lib.hid hb1
        clear hb1 hz1
        go_wp2
        try rw [hw1]
        refine wp_region_last (fun w' => w'.cell? ⟨w.heap.size, 0, none⟩ = some (.int .i64 B.D) ∧ w'.cell? ⟨w.heap.size, 1, none⟩ = some (.slice p B.F.length c) ∧ w'.cell? ⟨w.heap.size, 2, none⟩ = some (.int .i64 B.N) ∧ w'.cell? ⟨w.heap.size, 3, none⟩ = some (.slice (some ⟨b, o, none⟩) B.S.length d) ∧ w'.cell? ⟨w.heap.size, 4, none⟩ = some (.int .i64 B.P) ∧ w'.cell? ⟨wr.heap.size, 0, none⟩ = some (.int .i64 (dd : Int)) ∧ w'.cell? ⟨wr.heap.size, 1, none⟩ = some (.int .i64 s.p) ∧ w'.cell? ⟨wr.heap.size, 2, none⟩ = some (.int .i64 s.l) ∧ w'.cell? ⟨wr.heap.size, 3, none⟩ = some (.int .i64 s.h) ∧ w'.cell? ⟨w.heap.size + 1 + 1, dd, none⟩ = some (.int .i64 (gainTo B s.p x k dd))) 10 (by kernel_rfl) rfl (⟨b0, b1, b2, b3, b4, f0, f1, f2, f3, a0⟩) (fun hHeld => ?_)
        refine wpAnyG_take (i := 0) (v := ?_) (by kernel_rfl) rfl (by kernel_rfl) (by kernel_rfl) (by kernel_rfl) (fun _ _ _ h => h) (Or.inl ⟨by rfl, ?_⟩) (by assumption) ?_
        rotate_left
        · intro wS hSw
          (try dsimp only at hSw)
          go_simp
          try (with_reducible rfl)
        try simp only [Act.put, List.setIfInBounds_toArray, List.set_cons_zero, List.set_cons_succ]
        refine wpAnyG_take (i := 1) (v := ?_) (by kernel_rfl) rfl (by kernel_rfl) (by kernel_rfl) (by kernel_rfl) (fun _ _ _ h => h) (Or.inl ⟨by rfl, ?_⟩) (by assumption) ?_
        rotate_left
        · intro wS hSw
          (try dsimp only at hSw)
          go_simp
          try (with_reducible rfl)
        try simp only [Act.put, List.setIfInBounds_toArray, List.set_cons_zero, List.set_cons_succ]
        refine wpAnyG_take (i := 2) (v := ?_) (by kernel_rfl) rfl (by kernel_rfl) (by kernel_rfl) (by kernel_rfl) (fun _ _ _ h => h) (Or.inl ⟨by rfl, ?_⟩) (by assumption) ?_
        rotate_left
        · intro wS hSw
          (try dsimp only at hSw)
          go_simp
          try (with_reducible rfl)
        try simp only [Act.put, List.setIfInBounds_toArray, List.set_cons_zero, List.set_cons_succ]
        refine wpAnyG_take (i := 3) (v := ?_) (by kernel_rfl) rfl (by kernel_rfl) (by kernel_rfl) (by kernel_rfl) (fun _ _ _ h => h) (Or.inl ⟨by rfl, ?_⟩) (by assumption) ?_
        rotate_left
        · intro wS hSw
          (try dsimp only at hSw)
          go_simp
          try (with_reducible rfl)
        try simp only [Act.put, List.setIfInBounds_toArray, List.set_cons_zero, List.set_cons_succ]
        refine wpAnyG_take (i := 4) (v := ?_) (by kernel_rfl) rfl (by kernel_rfl) (by kernel_rfl) (by kernel_rfl) (fun _ _ _ h => h) (Or.inl ⟨by rfl, ?_⟩) (by assumption) ?_
        rotate_left
        · intro wS hSw
          (try dsimp only at hSw)
          go_simp
          try (with_reducible rfl)
        try simp only [Act.put, List.setIfInBounds_toArray, List.set_cons_zero, List.set_cons_succ]
        refine wpAnyG_take (i := 5) (v := ?_) (by kernel_rfl) rfl (by kernel_rfl) (by kernel_rfl) (by kernel_rfl) (fun _ _ _ h => h) (Or.inl ⟨by rfl, ?_⟩) (by assumption) ?_
        rotate_left
        · intro wS hSw
          (try dsimp only at hSw)
          go_simp
          try (with_reducible rfl)
        try simp only [Act.put, List.setIfInBounds_toArray, List.set_cons_zero, List.set_cons_succ]
        refine wpAnyG_take (i := 6) (v := ?_) (by kernel_rfl) rfl (by kernel_rfl) (by kernel_rfl) (by kernel_rfl) (fun _ _ _ h => h) (Or.inl ⟨by rfl, ?_⟩) (by assumption) ?_
        rotate_left
        · intro wS hSw
          (try dsimp only at hSw)
          go_simp
          try (with_reducible rfl)
        try simp only [Act.put, List.setIfInBounds_toArray, List.set_cons_zero, List.set_cons_succ]
        refine wpAnyG_one (i := 7) (by kernel_rfl) (by decide) (wpOp_plain rfl rfl ?_)
        go_simp
        go_at_call 48
        refine (HPT.out _).mono ?_
        rintro e w4 ⟨rfl, hb4⟩
        have hB4 : Below w1.heap.size w1 w4 := bT (bd (Below.refl _ _)) hb4
        have v0 := (hB4.cell b5).trans b0
        have v1 := (hB4.cell b5).trans b1
        have v2 := (hB4.cell b5).trans b2
        have v3 := (hB4.cell b5).trans b3
        have v4 := (hB4.cell b5).trans b4
        have v5 := (hB4.cell lf).trans f0
        have v6 := (hB4.cell lf).trans f1
        have v7 := (hB4.cell lf).trans f2
        have v8 := (hB4.cell lf).trans f3
        have v9 := (hB4.cell la).trans a0
        have v10 := (hB4.frozen la).trans (az dd)
        have HB4 := Lib.hid hB4
        clear hb4 hB4
        clear b0 b1 b2 b3 b4 f0 f1 f2 f3 a0
        refine ⟨⟨v0, v1, v2, v3, v4, v5, v6, v7, v8, v9⟩, ?_⟩
        try simp only [Act.put, List.setIfInBounds_toArray, List.set_cons_zero, List.set_cons_succ]
        clear hHeld
        have hHeld : (fun w' => w'.cell? ⟨w.heap.size, 0, none⟩ = some (.int .i64 B.D) ∧ w'.cell? ⟨w.heap.size, 1, none⟩ = some (.slice p B.F.length c) ∧ w'.cell? ⟨w.heap.size, 2, none⟩ = some (.int .i64 B.N) ∧ w'.cell? ⟨w.heap.size, 3, none⟩ = some (.slice (some ⟨b, o, none⟩) B.S.length d) ∧ w'.cell? ⟨w.heap.size, 4, none⟩ = some (.int .i64 B.P) ∧ w'.cell? ⟨wr.heap.size, 0, none⟩ = some (.int .i64 (dd : Int)) ∧ w'.cell? ⟨wr.heap.size, 1, none⟩ = some (.int .i64 s.p) ∧ w'.cell? ⟨wr.heap.size, 2, none⟩ = some (.int .i64 s.l) ∧ w'.cell? ⟨wr.heap.size, 3, none⟩ = some (.int .i64 s.h) ∧ w'.cell? ⟨w.heap.size + 1 + 1, dd, none⟩ = some (.int .i64 (gainTo B s.p x k dd))) w4 := ⟨v0, v1, v2, v3, v4, v5, v6, v7, v8, v9⟩
        refine wpAnyG_take (i := 8) (v := ?_) (by kernel_rfl) rfl (by kernel_rfl) (by kernel_rfl) (by kernel_rfl) (fun _ _ _ h => h) (Or.inl ⟨by rfl, ?_⟩) (by assumption) ?_
        rotate_left
        · intro wS hSw
          (try dsimp only at hSw)
          go_simp
          try (with_reducible rfl)
        try simp only [Act.put, List.setIfInBounds_toArray, List.set_cons_zero, List.set_cons_succ]
        refine wpAnyG_take (i := 9) (v := ?_) (by kernel_rfl) rfl (by kernel_rfl) (by kernel_rfl) (by kernel_rfl) (fun _ _ _ h => h) (Or.inl ⟨by rfl, ?_⟩) (by assumption) ?_
        rotate_left
        · intro wS hSw
          (try dsimp only at hSw)
          go_simp
          try (with_reducible rfl)
        try simp only [Act.put, List.setIfInBounds_toArray, List.set_cons_zero, List.set_cons_succ]
        refine wpAnyG_done (by kernel_rfl) (by kernel_rfl) (wpOp_plain rfl rfl ?_)
        go_simp
        go_wp2
        go_roundw
        case rel =>
          have h4 := bT HB1.out HB4.out
          refine ⟨k + 1, by go_num, hlt, bS (bT HW.out h4) (by simp; try omega) _, (HX.out.below h4).keep (by omega), (H1.out.below h4).keep (by omega), (H2.out.below h4).put hdd (by rw [← IntWalk.i64_left]; exact HS.out) (fun m hm hne => ?_)⟩
          rw [HGS.out m, if_neg (fun h => hne (by have := h.2; omega))]; omega
        case measure => simp [intOf]; omega
      · have jp : (s.p == pl) = false := by simp [hp]
        go_wp2
        go_roundw
        case rel =>
          refine ⟨k + 1, by go_num, hlt, bA HW.out _, HX.out.below (bA (Below.refl _ _) _), H1.out.below (bA (Below.refl _ _) _), (H2.out.below (bA (Below.refl _ _) _)).same fun m _ => ?_⟩
          rw [HGS.out m, if_neg (fun h => hp h.1)]; omega
        case measure => simp [intOf]; omega
    · have jk : decide ((k : Int) < (B.S.length : Int)) = false := by simp; omega
      obtain rfl : k = B.S.length := by omega
      have c0 := H2.out.cell 0 (by omega); have c1 := H2.out.cell 1 (by omega); have c2 := H2.out.cell 2 (by omega); have c3 := H2.out.cell 3 (by omega)
      have r0 := H1.out.cell 0 (by omega); have r1 := H1.out.cell 1 (by omega); have r2 := H1.out.cell 2 (by omega); have r3 := H1.out.cell 3 (by omega)
      have fr := H1.out.thaw
      have hl := H1.out.lt
      go_wp2
      refine bodyPost_ret (v := .agg #[.int .i64 (gainTo B pl x B.S.length 0), .int .i64 (gainTo B pl x B.S.length 1), .int .i64 (gainTo B pl x B.S.length 2), .int .i64 (gainTo B pl x B.S.length 3)]) ?_ rfl ?_
      case refine_2 =>
        refine ⟨rfl, ?_⟩
        iterate 4 (refine bS ?_ (by simp; try omega) _)
        exact HW.out
      simp [results, Try.results74, go_sem, r0, r1, r2, r3]
end Go.Proofs.Ytaaocomgmacjnaa
