/- Boxes of mouths: by remainders, of the program. -/
import Derived.Test.YthbicbmlbblflaaC8

set_option linter.unusedSimpArgs false

set_option linter.unusedVariables false

namespace Go.Proofs.Ythbicbmlbblflaa

open Go.RowKit

theorem DvAt.setn {w : World} {b q : Nat} {g : Nat → Int} (h : DvAt w b g) (hq : q < 5) (v : Int) : DvAt (w.setCell ⟨b, q, none⟩ (.int .i64 v)) b (fun i => if i = q then v else g i) := by
  have hc := h.c q hq
  refine ⟨by simpa using h.lt, fun i hi => ?_, fun i => by have := h.fz i; simpa using this⟩
  by_cases e : i = q
  · subst e
    have hf := h.fz i
    rw [if_pos rfl]
    go_simp
  · rw [if_neg e, World.cell?_setCell_other _ _ _ _ (by simp [e])]
    exact h.c i hi
theorem DvAt.cong {w : World} {b : Nat} {g g' : Nat → Int} (h : DvAt w b g) (e : ∀ i, i < 5 → g i = g' i) : DvAt w b g' := ⟨h.lt, fun i hi => by rw [← e i hi]; exact h.c i hi, h.fz⟩
/-- what holds while parts are rounded: w the world at the start -/
structure RI (w : World) (D : Bx) (p q : Option Addr) (c d : Nat) (h e : Nat → Int) (W : World) : Prop where
  b0 : W.cell? ⟨w.heap.size, 0, none⟩ = some (.slice p D.n c)
  b1 : W.cell? ⟨w.heap.size, 1, none⟩ = some (.slice q D.m d)
  r : DvAt W (w.heap.size + 1) (fun _ => 0)
  h : DvAt W (w.heap.size + 1 + 1) h
  e : DvAt W (w.heap.size + 1 + 1 + 1) e
  bl : Below w.heap.size w W
theorem RI.below {w : World} {D : Bx} {p q : Option Addr} {c d : Nat} {h e : Nat → Int} {A A' : World} (i : RI w D p q c d h e A) (k : Below A.heap.size A A') : RI w D p q c d h e A' := by
  have l := i.r.lt
  exact ⟨(k.cell (p := ⟨w.heap.size, 0, none⟩) (by first | (simp; done) | (simp; omega))).trans i.b0, (k.cell (p := ⟨w.heap.size, 1, none⟩) (by first | (simp; done) | (simp; omega))).trans i.b1, i.r.blk (k.block _ i.r.lt), i.h.blk (k.block _ i.h.lt), i.e.blk (k.block _ i.e.lt), bT i.bl k⟩
theorem RI.drew {w : World} {D : Bx} {p q : Option Addr} {c d : Nat} {h e : Nat → Int} {A : World} (i : RI w D p q c d h e A) : RI w D p q c d h e A.drew := i.below (bd (Below.refl _ _))
theorem RI.setH {w : World} {D : Bx} {p q : Option Addr} {c d : Nat} {h e : Nat → Int} {A : World} (i : RI w D p q c d h e A) {k : Nat} (hk : k < 5) (v : Int) : RI w D p q c d (fun j => if j = k then v else h j) e (A.setCell ⟨w.heap.size + 1 + 1, k, none⟩ (.int .i64 v)) :=
  ⟨by rw [World.cell?_setCell_other _ _ _ _ (by first | (simp; done) | (simp; omega))]; exact i.b0, by rw [World.cell?_setCell_other _ _ _ _ (by first | (simp; done) | (simp; omega))]; exact i.b1, i.r.blk (setCell_block (by simp)), i.h.setn hk v, i.e.blk (setCell_block (by simp)), bS i.bl (by first | (simp; done) | (simp; omega)) _⟩
theorem RI.setE {w : World} {D : Bx} {p q : Option Addr} {c d : Nat} {h e : Nat → Int} {A : World} (i : RI w D p q c d h e A) {k : Nat} (hk : k < 5) (v : Int) : RI w D p q c d h (fun j => if j = k then v else e j) (A.setCell ⟨w.heap.size + 1 + 1 + 1, k, none⟩ (.int .i64 v)) :=
  ⟨by rw [World.cell?_setCell_other _ _ _ _ (by first | (simp; done) | (simp; omega))]; exact i.b0, by rw [World.cell?_setCell_other _ _ _ _ (by first | (simp; done) | (simp; omega))]; exact i.b1, i.r.blk (setCell_block (by first | (simp; done) | (simp; omega))), i.h.blk (setCell_block (by simp)), i.e.setn hk v, bS i.bl (by first | (simp; done) | (simp; omega)) _⟩
theorem RI.cong {w : World} {D : Bx} {p q : Option Addr} {c d : Nat} {h e h' e' : Nat → Int} {A : World} (i : RI w D p q c d h e A) (k1 : ∀ j, j < 5 → h j = h' j) (k2 : ∀ j, j < 5 → e j = e' j) : RI w D p q c d h' e' A :=
  ⟨i.b0, i.b1, i.r, i.h.cong k1, i.e.cong k2, i.bl⟩
theorem four_r (w : World) (D : Bx) (p q : Option Addr) (c d : Nat) : ∃ W, (((w.alloc (Obj.cells #[Value.slice p D.n c, Value.slice q D.m d] 24)).alloc (Obj.cells #[Value.int .i64 0, Value.int .i64 0, Value.int .i64 0, Value.int .i64 0, Value.int .i64 0] 73)).alloc (Obj.cells #[Value.int .i64 0, Value.int .i64 0, Value.int .i64 0, Value.int .i64 0, Value.int .i64 0] 73)).alloc (Obj.cells #[Value.int .i64 0, Value.int .i64 0, Value.int .i64 0, Value.int .i64 0, Value.int .i64 0] 73) = W ∧
    RI w D p q c d (fun _ => 0) (fun _ => 0) W := by
  refine ⟨_, rfl, by go_simp, by go_simp, ⟨by first | (simp; done) | (simp; omega), dv_cell (by go_simp) (by go_simp) (by go_simp) (by go_simp) (by go_simp), fun i => by go_simp⟩, ⟨by simp, dv_cell (by go_simp) (by go_simp) (by go_simp) (by go_simp) (by go_simp), fun i => by go_simp⟩, ⟨by simp, dv_cell (by go_simp) (by go_simp) (by go_simp) (by go_simp) (by go_simp), fun i => by go_simp⟩, bA (bA (bA (bA (Below.refl _ _) _) _) _) _⟩
def hT (D : Bx) (fl : Int) (k : Nat) : Nat → Int := fun i => if i < k then h0 D fl i else 0
def cT (D : Bx) (fl : Int) (k : Nat) : Nat → Int := fun i => if i < k then c0 D fl i else 0
theorem hT_next (D : Bx) (fl : Int) (k i : Nat) : (if i = k then h0 D fl k else hT D fl k i) = hT D fl (k + 1) i := by
  unfold hT
  by_cases e : i = k
  · subst e; rw [if_pos rfl, if_pos (by omega)]
  · rw [if_neg e]
    by_cases h : i < k
    · rw [if_pos h, if_pos (by omega)]
    · rw [if_neg h, if_neg (by omega)]
theorem cT_next (D : Bx) (fl : Int) (k i : Nat) : (if i = k then c0 D fl k else cT D fl k i) = cT D fl (k + 1) i := by
  unfold cT
  by_cases e : i = k
  · subst e; rw [if_pos rfl, if_pos (by omega)]
  · rw [if_neg e]
    by_cases h : i < k
    · rw [if_pos h, if_pos (by omega)]
    · rw [if_neg h, if_neg (by omega)]
theorem hT_all (D : Bx) (fl : Int) (i : Nat) : hT D fl D.n i = h0 D fl i := by unfold hT h0; split <;> simp
theorem cT_all (D : Bx) (fl : Int) (i : Nat) : cT D fl D.n i = c0 D fl i := by unfold cT c0; split <;> simp
def rm5 (D : Bx) (F : Nat) : Value := .agg #[.int .i64 (RM D F 0), .int .i64 (RM D F 1), .int .i64 (RM D F 2), .int .i64 (RM D F 3), .int .i64 (RM D F 4)]
set_option maxRecDepth 100000 in
set_option maxHeartbeats 8000000 in
theorem byRem_any (D : Bx) (p q : Option Addr) (c d F : Nat) (w : World) (hok : D.ok = true) (hF : F ≤ 40) (hi : BxIn w w.heap.size D p q) :
    Calls Try.prog 78 #[.agg #[.slice p D.n c, .slice q D.m d], .int .i64 (F : Int)] w fun e w' => e = .returned (.agg #[.int .i64 (RM D F 0), .int .i64 (RM D F 1), .int .i64 (RM D F 2), .int .i64 (RM D F 3), .int .i64 (RM D F 4)]) ∧ Below w.heap.size w w' := by
  obtain ⟨w4, hw4, hri⟩ := four_r w D p q c d
  have HRI := Lib.hid hri
  have HOK := Lib.hid hok
  have hn5 := (Bx.ok_parts hok).1
  have HI : Hid (∀ V : World, Below w.heap.size w V → BxIn V V.heap.size D p q) := fun V hV => (hi.below hV).mono hV.size
  have HS := Lib.hid (show ∀ V : World, BxIn V V.heap.size D p q → Calls Try.prog 67 #[.slice p D.n c] V fun e w' => e = .returned (.int .i64 (allS D)) ∧ V = w' from fun V h => sum_any D.n c D.sh p V (by omega) (sh_1000 hok) h.s)
  have B0 := hri.b0; have B1 := hri.b1
  by_cases ha : allS D = 0
  · have j0 : (allS D == 0) = true := by simpa using ha
    have HN : Hid (∀ i, RM D F i = 0) := fun i => by rw [show RM D F = fun _ => 0 from if_pos ha]
    have g0 := hri.h.c 0 (by omega)
    have g1 := hri.h.c 1 (by omega)
    have g2 := hri.h.c 2 (by omega)
    have g3 := hri.h.c 3 (by omega)
    have g4 := hri.h.c 4 (by omega)
    have r0 := hri.r.c 0 (by omega)
    have r1 := hri.r.c 1 (by omega)
    have r2 := hri.r.c 2 (by omega)
    have r3 := hri.r.c 3 (by omega)
    have r4 := hri.r.c 4 (by omega)
    have rf := hri.r.fz
    clear ha hok hi hri
    go_enter Try.func78, Try.ntmps78
    go_wp2_with fail
    refine (HS.out _ (HI.out _ HRI.out.bl)).mono ?_
    rintro e w' ⟨rfl, rfl⟩
    go_wp2
    obtain ⟨W5, hW5, hd5, hk5, hb5⟩ := set_five w4 (fun _ => 0) HRI.out.r
    rw [hW5]
    have k0 := hd5.c 0 (by omega)
    have k1 := hd5.c 1 (by omega)
    have k2 := hd5.c 2 (by omega)
    have k3 := hd5.c 3 (by omega)
    have k4 := hd5.c 4 (by omega)
    refine bodyPost_ret (v := .agg #[.int .i64 0, .int .i64 0, .int .i64 0, .int .i64 0, .int .i64 0]) (by simp [results, Try.f78, go_sem, k0, k1, k2, k3, k4]) rfl ⟨by rw [HN.out, HN.out, HN.out, HN.out, HN.out], ?_⟩
    exact HRI.out.bl.trans (hb5.mono (by omega))
  · have j0 : (allS D == 0) = false := by simpa using ha
    have HA := Lib.hid ha
    clear ha hok hi hri
    go_enter Try.func78, Try.ntmps78
    go_wp2_with fail
    refine (HS.out _ (HI.out _ HRI.out.bl)).mono ?_
    rintro e w' ⟨rfl, rfl⟩
    go_wp2
    clear B0 B1 hw4
    go_loopw [20] (fun i wr => ∃ k : Nat, i = .int .i64 (k : Int) ∧ k ≤ D.n ∧ RI w D p q c d (hT D F k) (cT D F k) wr) (fun i _ => D.n - (intOf i).toNat)
    case atStart => exact ⟨0, rfl, Nat.zero_le _, HRI.out.cong (fun j hj => by unfold hT; simp) (fun j hj => by unfold cT; simp)⟩
    case round =>
      obtain ⟨k, rfl, hk, hri⟩ := hrel
      have HR := Lib.hid hri; clear hri HRI
      by_cases hlt : k < D.n
      · have HIN := Lib.hid (HI.out _ HR.out.bl)
        obtain ⟨b1, of1, rfl, _, _⟩ := HIN.out.s (by omega)
        have E0 := (HIN.out.s.cell hlt).2
        have hkm : (k : Int) < (D.n : Int) := by omega
        have hk5 : (k : Int) < 5 := by omega
        have hk5n : k < 5 := by omega
        have hpb := part_bd (fl := (F : Int)) HOK.out ⟨by omega, by omega⟩ hlt
        have hab := allS_bd HOK.out
        have ew : IntKind.i64.wrap ((F : Int) * D.sh k) = (F : Int) * D.sh k := IntWalk.i64_in _ (by omega)
        have ha0 : ¬ allS D = 0 := HA.out
        have hh := h0_bd (fl := (F : Int)) HOK.out HA.out ⟨by omega, by omega⟩ k
        have hcc := c0_bd (fl := (F : Int)) HOK.out HA.out k
        have eh : (F : Int) * D.sh k / allS D = h0 D F k := (if_pos hlt).symm
        have ec : (F : Int) * D.sh k % allS D = c0 D F k := (if_pos hlt).symm
        have t1 : ((F : Int) * D.sh k).tdiv (allS D) = h0 D F k := by rw [Int.tdiv_eq_ediv_of_nonneg hpb.1]; exact eh
        have t2 : ((F : Int) * D.sh k).tmod (allS D) = c0 D F k := by rw [Int.tmod_eq_emod_of_nonneg hpb.1]; exact ec
        obtain ⟨u, hu⟩ : ∃ u, h0 D F k = u := ⟨_, rfl⟩
        obtain ⟨v, hv⟩ : ∃ v, c0 D F k = v := ⟨_, rfl⟩
        have HU := Lib.hid hu; have HV := Lib.hid hv
        rw [hu] at t1 eh hh; rw [hv] at t2 ec hcc
        have e1 : IntKind.i64.wrap u = u := IntWalk.i64_in _ (by omega)
        have e2 : IntKind.i64.wrap v = v := IntWalk.i64_in _ (by omega)
        have gh := HR.out.h.c k hk5n
        have fh := HR.out.h.fz k
        have gc := HR.out.e.c k hk5n
        have fc := HR.out.e.fz k
        clear hu hv hpb hab hh hcc
        go_wp2
        refine wp_region_last (fun _ => True) 15 (by kernel_rfl) rfl trivial (fun _ => ?_)
        refine wpAnyG_take (i := 0) (v := ?_) (by kernel_rfl) rfl (by kernel_rfl) (by kernel_rfl) (by kernel_rfl) (fun _ _ _ h => h) (Or.inl ⟨by rfl, ?_⟩) trivial ?_
        rotate_left
        · rintro wS -
          go_simp
          try (with_reducible rfl)
        try simp only [Act.put, List.setIfInBounds_toArray, List.set_cons_zero, List.set_cons_succ]
        refine wpAnyG_take (i := 1) (v := ?_) (by kernel_rfl) rfl (by kernel_rfl) (by kernel_rfl) (by kernel_rfl) (fun _ _ _ h => h) (Or.inl ⟨by rfl, ?_⟩) trivial ?_
        rotate_left
        · rintro wS -
          go_simp
          try (with_reducible rfl)
        try simp only [Act.put, List.setIfInBounds_toArray, List.set_cons_zero, List.set_cons_succ]
        refine wpAnyG_take (i := 2) (v := ?_) (by kernel_rfl) rfl (by kernel_rfl) (by kernel_rfl) (by kernel_rfl) (fun _ _ _ h => h) (Or.inl ⟨by rfl, ?_⟩) trivial ?_
        rotate_left
        · rintro wS -
          go_simp
          try (with_reducible rfl)
        try simp only [Act.put, List.setIfInBounds_toArray, List.set_cons_zero, List.set_cons_succ]
        refine wpAnyG_take (i := 3) (v := ?_) (by kernel_rfl) rfl (by kernel_rfl) (by kernel_rfl) (by kernel_rfl) (fun _ _ _ h => h) (Or.inl ⟨by rfl, ?_⟩) trivial ?_
        rotate_left
        · rintro wS -
          go_simp
          try (with_reducible rfl)
        try simp only [Act.put, List.setIfInBounds_toArray, List.set_cons_zero, List.set_cons_succ]
        refine wpAnyG_take (i := 4) (v := ?_) (by kernel_rfl) rfl (by kernel_rfl) (by kernel_rfl) (by kernel_rfl) (fun _ _ _ h => h) (Or.inl ⟨by rfl, ?_⟩) trivial ?_
        rotate_left
        · rintro wS -
          go_simp
          try (with_reducible rfl)
        try simp only [Act.put, List.setIfInBounds_toArray, List.set_cons_zero, List.set_cons_succ]
        refine wpAnyG_take (i := 5) (v := ?_) (by kernel_rfl) rfl (by kernel_rfl) (by kernel_rfl) (by kernel_rfl) (fun _ _ _ h => h) (Or.inl ⟨by rfl, ?_⟩) trivial ?_
        rotate_left
        · rintro wS -
          go_simp
          try (with_reducible rfl)
        try simp only [Act.put, List.setIfInBounds_toArray, List.set_cons_zero, List.set_cons_succ]
        refine wpAnyG_take (i := 6) (v := ?_) (by kernel_rfl) rfl (by kernel_rfl) (by kernel_rfl) (by kernel_rfl) (fun _ _ _ h => h) (Or.inl ⟨by rfl, ?_⟩) trivial ?_
        rotate_left
        · rintro wS -
          go_simp
          try (with_reducible rfl)
        try simp only [Act.put, List.setIfInBounds_toArray, List.set_cons_zero, List.set_cons_succ]
        refine wpAnyG_take (i := 7) (v := ?_) (by kernel_rfl) rfl (by kernel_rfl) (by kernel_rfl) (by kernel_rfl) (fun _ _ _ h => h) (Or.inl ⟨by rfl, ?_⟩) trivial ?_
        rotate_left
        · rintro wS -
          go_simp
          try (with_reducible rfl)
        try simp only [Act.put, List.setIfInBounds_toArray, List.set_cons_zero, List.set_cons_succ]
        refine wpAnyG_take (i := 8) (v := ?_) (by kernel_rfl) rfl (by kernel_rfl) (by kernel_rfl) (by kernel_rfl) (fun _ _ _ h => h) (Or.inl ⟨by rfl, ?_⟩) trivial ?_
        rotate_left
        · rintro wS -
          go_simp
          try (with_reducible rfl)
        try simp only [Act.put, List.setIfInBounds_toArray, List.set_cons_zero, List.set_cons_succ]
        refine wpAnyG_take (i := 9) (v := ?_) (by kernel_rfl) rfl (by kernel_rfl) (by kernel_rfl) (by kernel_rfl) (fun _ _ _ h => h) (Or.inl ⟨by rfl, ?_⟩) trivial ?_
        rotate_left
        · rintro wS -
          go_simp
          try (with_reducible rfl)
        try simp only [Act.put, List.setIfInBounds_toArray, List.set_cons_zero, List.set_cons_succ]
        refine wpAnyG_take (i := 10) (v := ?_) (by kernel_rfl) rfl (by kernel_rfl) (by kernel_rfl) (by kernel_rfl) (fun _ _ _ h => h) (Or.inl ⟨by rfl, ?_⟩) trivial ?_
        rotate_left
        · rintro wS -
          go_simp
          try (with_reducible rfl)
        try simp only [Act.put, List.setIfInBounds_toArray, List.set_cons_zero, List.set_cons_succ]
        refine wpAnyG_take (i := 11) (v := ?_) (by kernel_rfl) rfl (by kernel_rfl) (by kernel_rfl) (by kernel_rfl) (fun _ _ _ h => h) (Or.inl ⟨by rfl, ?_⟩) trivial ?_
        rotate_left
        · rintro wS -
          go_simp
          try (with_reducible rfl)
        try simp only [Act.put, List.setIfInBounds_toArray, List.set_cons_zero, List.set_cons_succ]
        refine wpAnyG_take (i := 12) (v := ?_) (by kernel_rfl) rfl (by kernel_rfl) (by kernel_rfl) (by kernel_rfl) (fun _ _ _ h => h) (Or.inl ⟨by rfl, ?_⟩) trivial ?_
        rotate_left
        · rintro wS -
          go_simp
          try (with_reducible rfl)
        try simp only [Act.put, List.setIfInBounds_toArray, List.set_cons_zero, List.set_cons_succ]
        refine wpAnyG_one (i := 13) (by kernel_rfl) (by decide) (wpOp_plain rfl rfl ?_)
        go_simp
        try refine ⟨trivial, ?_⟩
        try simp only [Act.put, List.setIfInBounds_toArray, List.set_cons_zero, List.set_cons_succ]
        refine wpAnyG_take (i := 14) (v := ?_) (by kernel_rfl) rfl (by kernel_rfl) (by kernel_rfl) (by kernel_rfl) (fun _ _ _ h => h) (Or.inl ⟨by rfl, ?_⟩) trivial ?_
        rotate_left
        · rintro wS -
          go_simp
          try (with_reducible rfl)
        try simp only [Act.put, List.setIfInBounds_toArray, List.set_cons_zero, List.set_cons_succ]
        refine wpAnyG_done (by kernel_rfl) (by kernel_rfl) (wpOp_plain rfl rfl ?_)
        go_simp
        go_wp2
        go_roundw
        case rel =>
          have h1 := (HR.out.drew.setH hk5n u).setE hk5n v
          rw [← HU.out, ← HV.out] at h1
          exact ⟨k + 1, by go_num, hlt, by rw [← HU.out, ← HV.out]; exact h1.cong (fun j _ => hT_next D F k j) (fun j _ => cT_next D F k j)⟩
        case measure => first | (simp [intOf]; done) | (simp [intOf]; omega)
      · have hkn : k = D.n := by omega
        have j : decide ((k : Int) < (D.n : Int)) = false := by simp; omega
        have HR2 : Hid (RI w D p q c d (h0 D F) (c0 D F) wr) := HR.out.cong (fun j _ => by rw [hkn]; exact hT_all D F j) (fun j _ => by rw [hkn]; exact cT_all D F j)
        have hl := lft_bd (fl := (F : Int)) HOK.out HA.out
        have ew : IntKind.i64.wrap ((F : Int) - sumN (h0 D F) 5) = lft D F := IntWalk.i64_in _ (by unfold lft at hl; omega)
        have el : (F : Int) - sumN (h0 D F) 5 = lft D F := rfl
        have ew2 : IntKind.i64.wrap (lft D F) = lft D F := IntWalk.i64_in _ (by omega)
        have HL := Lib.hid hl
        have HSM := Lib.hid (sum_any 5 5 (h0 D F) _ wr (by omega) (fun i _ => by have := h0_bd (fl := (F : Int)) HOK.out HA.out ⟨by omega, by omega⟩ i; omega) HR2.out.h.num)
        clear hkn hl
        go_wp2_with fail
        refine (HSM.out).mono ?_
        rintro e w' ⟨rfl, rfl⟩
        go_wp2
        clear ew el ew2
        obtain ⟨L, hL⟩ : ∃ L : Nat, lft D F = (L : Int) := ⟨(lft D F).toNat, by have := HL.out; omega⟩
        have HLN := Lib.hid hL
        have hL4 : L ≤ 4 := by have := HL.out; omega
        rw [hL]
        clear hL
        go_loopw [44] (fun i wr => ∃ j : Nat, i = .int .i64 (j : Int) ∧ j ≤ L ∧ RI w D p q c d (got (h0 D F) (c0 D F) j).2.1 (got (h0 D F) (c0 D F) j).2.2 wr) (fun i _ => L - (intOf i).toNat)
        case atStart => exact ⟨0, rfl, Nat.zero_le _, HR2.out⟩
        case round =>
          obtain ⟨m, rfl, hm, hri⟩ := hrel
          have HR3 := Lib.hid hri; clear hri HR HR2
          by_cases hlt2 : m < L
          · have hmi : (m : Int) < (L : Int) := by omega
            have hgi := got_inv (fl := (F : Int)) HOK.out HA.out (j := m) (by have := HLN.out; omega)
            obtain ⟨p1, p2, p3⟩ := hgi.pos HOK.out HA.out (by have := HLN.out; omega)
            have hq5 : grt (got (h0 D F) (c0 D F) m).2.2 5 < 5 := by omega
            have hb := h0_bd (fl := (F : Int)) HOK.out HA.out ⟨by omega, by omega⟩ (grt (got (h0 D F) (c0 D F) m).2.2 5)
            have hqv := hgi.hh (grt (got (h0 D F) (c0 D F) m).2.2 5)
            rw [if_neg p3] at hqv
            have HG := Lib.hid (greatest_any 5 5 (got (h0 D F) (c0 D F) m).2.2 _ wr (by omega) (by omega) HR3.out.e.num)
            have HN1 : Hid (∀ i, (got (h0 D F) (c0 D F) (m + 1)).2.1 i = up (got (h0 D F) (c0 D F) m).2.1 (grt (got (h0 D F) (c0 D F) m).2.2 5) i) := fun i => rfl
            have HN2 : Hid (∀ i, (got (h0 D F) (c0 D F) (m + 1)).2.2 i = zr (got (h0 D F) (c0 D F) m).2.2 (grt (got (h0 D F) (c0 D F) m).2.2 5) i) := fun i => rfl
            obtain ⟨x, hx⟩ : ∃ x, grt (got (h0 D F) (c0 D F) m).2.2 5 = x := ⟨_, rfl⟩
            rw [hx] at HG HN1 HN2 hq5 hb hqv
            have hxi : (x : Int) < 5 := by omega
            have gh := HR3.out.h.c x hq5
            have fh := HR3.out.h.fz x
            have gc := HR3.out.e.c x hq5
            have fc := HR3.out.e.fz x
            obtain ⟨vv, hvv⟩ : ∃ vv, (got (h0 D F) (c0 D F) m).2.1 x = vv := ⟨_, rfl⟩
            have HVV := Lib.hid hvv
            rw [hvv] at gh hqv
            have ew : IntKind.i64.wrap (vv + 1) = vv + 1 := IntWalk.i64_in _ (by omega)
            clear hx hb hqv hgi p1 p2 p3 hvv
            go_wp2_with fail
            refine (HG.out).mono ?_
            rintro e w' ⟨rfl, rfl⟩
            go_wp2
            go_roundw
            case rel =>
              refine ⟨m + 1, by go_num, hlt2, ((HR3.out.setH hq5 (vv + 1)).setE hq5 0).cong (fun j hj => ?_) (fun j hj => ?_)⟩
              · rw [HN1.out]
                unfold up
                by_cases e : j = x
                · rw [if_pos e, if_pos e, e, HVV.out]
                · rw [if_neg e, if_neg e]
              · rw [HN2.out]; rfl
            case measure => first | (simp [intOf]; done) | (simp [intOf]; omega)
          · have HME := Lib.hid (show m = L by omega)
            have j2 : decide ((m : Int) < (L : Int)) = false := by simp; omega
            have hRM : ∀ i, (got (h0 D F) (c0 D F) m).2.1 i = RM D F i := fun i => by
              rw [show RM D F = (got (h0 D F) (c0 D F) (lft D F).toNat).2.1 from if_neg HA.out, HLN.out, HME.out]; rfl
            have HFI := Lib.hid (HR3.out.cong (e' := (got (h0 D F) (c0 D F) m).2.2) (fun j _ => hRM j) (fun _ _ => rfl))
            have g0 := HFI.out.h.c 0 (by omega)
            have g1 := HFI.out.h.c 1 (by omega)
            have g2 := HFI.out.h.c 2 (by omega)
            have g3 := HFI.out.h.c 3 (by omega)
            have g4 := HFI.out.h.c 4 (by omega)
            have r0 := HFI.out.r.c 0 (by omega)
            have r1 := HFI.out.r.c 1 (by omega)
            have r2 := HFI.out.r.c 2 (by omega)
            have r3 := HFI.out.r.c 3 (by omega)
            have r4 := HFI.out.r.c 4 (by omega)
            have rf := HFI.out.r.fz
            clear hRM
            go_wp2
            obtain ⟨W5, hW5, hd5, hk5, hb5⟩ := set_five wr (RM D F) HFI.out.r
            rw [hW5]
            have k0 := hd5.c 0 (by omega)
            have k1 := hd5.c 1 (by omega)
            have k2 := hd5.c 2 (by omega)
            have k3 := hd5.c 3 (by omega)
            have k4 := hd5.c 4 (by omega)
            refine bodyPost_ret (v := .agg #[.int .i64 (RM D F 0), .int .i64 (RM D F 1), .int .i64 (RM D F 2), .int .i64 (RM D F 3), .int .i64 (RM D F 4)]) (by simp [results, Try.f78, go_sem, k0, k1, k2, k3, k4]) rfl ⟨rfl, ?_⟩
            exact HFI.out.bl.trans (hb5.mono (by omega))
end Go.Proofs.Ythbicbmlbblflaa
