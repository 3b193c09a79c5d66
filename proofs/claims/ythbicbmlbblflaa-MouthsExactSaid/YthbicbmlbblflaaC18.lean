/- Boxes of mouths: who is served the worst, of both. -/
import Derived.Test.YthbicbmlbblflaaC13

set_option linter.unusedSimpArgs false

set_option linter.unusedVariables false

namespace Go.Proofs.Ythbicbmlbblflaa

open Go.RowKit

/-- who is served the worst of the first ones -/
def wsA (D : Bx) (g : Nat → Int) : Nat → Option Nat
  | 0 => none
  | k + 1 => if D.sh k = 0 then wsA D g k else
    match wsA D g k with
    | none => some k
    | some b => if decide (g k * D.sh b < g b * D.sh k) then some k else some b
theorem wsA_lt {D : Bx} {g : Nat → Int} : ∀ {k b : Nat}, wsA D g k = some b → b < k
  | 0, b, h => by cases h
  | k + 1, b, h => by
    unfold wsA at h
    split at h
    · have := wsA_lt h; omega
    · split at h
      · cases h; omega
      · rename_i c hc
        have := wsA_lt hc
        split at h
        · cases h; omega
        · cases h; omega
theorem wsA_zero {D : Bx} {g : Nat → Int} {k : Nat} (h : D.sh k = 0) : wsA D g (k + 1) = wsA D g k := by
  show (if D.sh k = 0 then _ else _) = _
  rw [if_pos h]
theorem wsA_first {D : Bx} {g : Nat → Int} {k : Nat} (h : D.sh k ≠ 0) (h2 : wsA D g k = none) : wsA D g (k + 1) = some k := by
  show (if D.sh k = 0 then _ else match wsA D g k with | none => some k | some b => if decide (g k * D.sh b < g b * D.sh k) then some k else some b) = _
  rw [if_neg h, h2]
theorem wsA_cmp {D : Bx} {g : Nat → Int} {k b : Nat} (h : D.sh k ≠ 0) (h2 : wsA D g k = some b) : wsA D g (k + 1) = if decide (g k * D.sh b < g b * D.sh k) then some k else some b := by
  show (if D.sh k = 0 then _ else match wsA D g k with | none => some k | some b => if decide (g k * D.sh b < g b * D.sh k) then some k else some b) = _
  rw [if_neg h, h2]
theorem onI_some (b : Nat) : onI (some b) = (b : Int) := rfl
set_option maxRecDepth 100000 in
set_option maxHeartbeats 8000000 in
theorem worst_any (D : Bx) (g : Nat → Int) (p q : Option Addr) (c d : Nat) (w : World) (hok : D.ok = true) (hg : ∀ i, 0 ≤ g i ∧ g i ≤ 20) (hi : BxIn w w.heap.size D p q) :
    Calls Try.prog 80 #[.agg #[.slice p D.n c, .slice q D.m d], .agg #[.int .i64 (g 0), .int .i64 (g 1), .int .i64 (g 2), .int .i64 (g 3), .int .i64 (g 4)]] w fun e w' => e = .returned (.tuple #[.int .i64 (onI (wsA D g D.n)), .bool (wsA D g D.n).isSome]) ∧ Below w.heap.size w w' := by
  obtain ⟨o1, o2, o3, o4⟩ := Bx.ok_parts hok
  obtain ⟨w1, x1, hw1, hb1, hz1, F0, F1⟩ := box_bx w p q D.n D.m c d
  have hd := DvAt.new x1.v g
  have hb2 : Below x1.v.heap.size x1.v (x1.v.alloc (Obj.cells #[.int .i64 (g 0), .int .i64 (g 1), .int .i64 (g 2), .int .i64 (g 3), .int .i64 (g 4)] 73)) := bA (Below.refl _ _) _
  obtain ⟨z2, hz2⟩ : ∃ zz : Ext w1, x1.v.alloc (Obj.cells #[.int .i64 (g 0), .int .i64 (g 1), .int .i64 (g 2), .int .i64 (g 3), .int .i64 (g 4)] 73) = zz.v := ⟨⟨_, bT x1.b hb2⟩, rfl⟩
  rw [hz2] at hd
  obtain ⟨w2, hw2⟩ : ∃ w2, z2.v = w2 := ⟨_, rfl⟩
  have hb12 : Below w1.heap.size w1 w2 := by rw [← hw2]; exact z2.b
  have HB := Lib.hid (bT hb1 hb12)
  obtain ⟨x2, hx2⟩ := rebase w2
  have hz3 := hz2.trans (hw2.trans hx2)
  have hd2 : DvAt w2 x1.v.heap.size g := by rw [← hw2]; exact hd
  have HD : Hid (∀ z : Ext w2, DvAt z.v x1.v.heap.size g) := fun z => hd2.blk (z.b.block _ hd2.lt)
  have HI : Hid (∀ x : Ext w2, BxIn x.v x.v.heap.size D p q) := fun x => (hi.bel hb1).bel (bT hb12 x.b)
  replace F0 : ∀ y : Ext w2, y.v.cell? ⟨w.heap.size, 0, none⟩ = some (.slice p D.n c) := fun y => F0 (y.up hb12)
  replace F1 : ∀ y : Ext w2, y.v.cell? ⟨w.heap.size, 1, none⟩ = some (.slice q D.m d) := fun y => F1 (y.up hb12)
  have HG := Lib.hid hg; have HO3 := Lib.hid o3
  clear hb1 hz1 hi hok hg o2 o3 o4 hd hb2 hz2 hw2 hb12 hx2 hd2
  go_enter Try.func80, Try.ntmps80
  go_wp2
  clear hw1 hz3
  go_loopw [4, 5, 11] (fun v is i wr => ∃ k : Nat, i = .int .i64 (k : Int) ∧ v = .int .i64 (onI (wsA D g k)) ∧ is = .bool (wsA D g k).isSome ∧ k ≤ D.n ∧ ∃ z : Ext w2, wr = z.v) (fun _ _ i _ => D.n - (intOf i).toNat)
  case atStart => exact ⟨0, rfl, rfl, rfl, Nat.zero_le _, x2, rfl⟩
  case round =>
    obtain ⟨k, rfl, rfl, rfl, hk, z, rfl⟩ := hrel
    by_cases hlt : k < D.n
    · obtain ⟨b1, of1, rfl, _, _⟩ := (HI.out z).s (by omega)
      have E0 : ∀ z : Ext w2, z.v.cell? ⟨b1, of1 + k, none⟩ = some (.int .i64 (D.sh k)) := fun z => ((HI.out z).s.cell hlt).2
      have E1 : ∀ z : Ext w2, z.v.cell? ⟨x1.v.heap.size, k, none⟩ = some (.int .i64 (g k)) := fun z => (HD.out z).c k (by omega)
      have hkm : (k : Int) < (D.n : Int) := by omega
      have hk5 : (k : Int) < 5 := by omega
      by_cases hs : D.sh k = 0
      · have j0 : (D.sh k == 0) = true := by simpa using hs
        have HN := Lib.hid (wsA_zero (g := g) hs)
        clear hs
        go_wp2
        go_roundw
        case rel => exact ⟨k + 1, by go_num, by rw [HN.out], by rw [HN.out], hlt, z, rfl⟩
        case measure => first | (simp [intOf]; done) | (simp [intOf]; omega)
      · have j0 : (D.sh k == 0) = false := by simpa using hs
        cases hws : wsA D g k with
        | none =>
          have HN := Lib.hid (wsA_first hs hws)
          have f1 : onI none = 0 := rfl
          have f2 : (none : Option Nat).isSome = false := rfl
          clear hs hws
          go_wp2
          refine quiet_e (by kernel_rfl) (by kernel_rfl) ?_
          repeat (first | go_big_quiet_step (fail) | quiet_step (fail))
          refine wpQuiet_nil ?_
          intro w6 hw6
          obtain ⟨y2, rfl⟩ := hw6
          go_wp2
          go_roundw
          case rel => exact ⟨k + 1, by go_num, by rw [HN.out] <;> rfl, by rw [HN.out] <;> rfl, hlt, y2, rfl⟩
          case measure => first | (simp [intOf]; done) | (simp [intOf]; omega)
        | some b =>
          have HN := Lib.hid (wsA_cmp hs hws)
          have hbk := wsA_lt hws
          have f1 : onI (some b) = (b : Int) := rfl
          have f2 : (some b : Option Nat).isSome = true := rfl
          have E2 : ∀ z : Ext w2, z.v.cell? ⟨b1, of1 + b, none⟩ = some (.int .i64 (D.sh b)) := fun z => ((HI.out z).s.cell (by omega)).2
          have E3 : ∀ z : Ext w2, z.v.cell? ⟨x1.v.heap.size, b, none⟩ = some (.int .i64 (g b)) := fun z => (HD.out z).c b (by omega)
          have hbm : (b : Int) < (D.n : Int) := by omega
          have hb5 : (b : Int) < 5 := by omega
          have m1 := mul_bd (a := g k) (b := D.sh b) (A := 20) (B := 20) (HG.out k) (HO3.out b (by omega)) (by omega)
          have m2 := mul_bd (a := g b) (b := D.sh k) (A := 20) (B := 20) (HG.out b) (HO3.out k hlt) (by omega)
          have e1 : IntKind.i64.wrap (g k * D.sh b) = g k * D.sh b := IntWalk.i64_in _ (by omega)
          have e2 : IntKind.i64.wrap (g b * D.sh k) = g b * D.sh k := IntWalk.i64_in _ (by omega)
          obtain ⟨u1, hu1⟩ : ∃ u, g k * D.sh b = u := ⟨_, rfl⟩
          obtain ⟨u2, hu2⟩ : ∃ u, g b * D.sh k = u := ⟨_, rfl⟩
          rw [hu1] at e1; rw [hu2] at e2
          rw [hu1, hu2] at HN
          clear hs hws m1 m2
          cases hc : decide (u1 < u2) with
          | true =>
            have HN2 := Lib.hid (HN.out.trans (by rw [hc]; rfl : (if decide (u1 < u2) = true then some k else some b) = some k))
            go_wp2
            refine quiet_e (by kernel_rfl) (by kernel_rfl) ?_
            repeat (first | go_big_quiet_step (fail) | quiet_step (fail))
            refine wpQuiet_nil ?_
            intro w6 hw6
            obtain ⟨y2, rfl⟩ := hw6
            go_wp2
            go_roundw
            case rel => exact ⟨k + 1, by go_num, by rw [HN2.out] <;> rfl, by rw [HN2.out] <;> rfl, hlt, y2, rfl⟩
            case measure => first | (simp [intOf]; done) | (simp [intOf]; omega)
          | false =>
            have HN2 := Lib.hid (HN.out.trans (by rw [hc]; rfl : (if decide (u1 < u2) = true then some k else some b) = some b))
            go_wp2
            refine quiet_e (by kernel_rfl) (by kernel_rfl) ?_
            repeat (first | go_big_quiet_step (fail) | quiet_step (fail))
            refine wpQuiet_nil ?_
            intro w6 hw6
            obtain ⟨y2, rfl⟩ := hw6
            go_wp2
            go_roundw
            case rel => exact ⟨k + 1, by go_num, by rw [HN2.out] <;> rfl, by rw [HN2.out] <;> rfl, hlt, y2, rfl⟩
            case measure => first | (simp [intOf]; done) | (simp [intOf]; omega)
    · have hkn : k = D.n := by omega
      have HKN := Lib.hid hkn
      have j : decide ((k : Int) < (D.n : Int)) = false := by simp; omega
      clear hkn
      go_wp2
      go_ret2
      exact ⟨by rw [← HKN.out] <;> rfl, bT HB.out z.b⟩
def svV (D : Bx) (fl : Int) : Int := if gE D fl = 0 then onI (wsA D (gv D fl.toNat) D.n) else 0
def svE (D : Bx) (fl : Int) : Int := if gE D fl = 0 then noneE (wsA D (gv D fl.toNat) D.n).isSome else gE D fl
theorem gv_20 {D : Bx} (hok : D.ok = true) (F i : Nat) : 0 ≤ gv D F i ∧ gv D F i ≤ 20 := by
  obtain ⟨h1, h2, h3, _⟩ := gv_bd hok F i
  rcases Nat.lt_or_ge i D.n with h | h
  · have := h2 h; have := (Bx.ok_parts hok).2.2.2 i (by have := (Bx.ok_parts hok).2.1; omega); omega
  · have := h3 h; omega
set_option maxRecDepth 100000 in
set_option maxHeartbeats 4000000 in
theorem servedP_any (D : Bx) (p q : Option Addr) (c d : Nat) (fl : Int) (w : World) (hn : D.n ≤ 40) (hm : D.m ≤ 40) (hi : BxIn w w.heap.size D p q) :
    Calls Try.prog 39 #[.agg #[.slice p D.n c, .slice q D.m d], .int .i64 fl] w fun e w' => e = .returned (.tuple #[.int .i64 (svV D fl), .int .i64 (svE D fl)]) ∧ Below w.heap.size w w' := by
  obtain ⟨w1, x, hw1, hb1, hz1, F0, F1⟩ := box_bx w p q D.n D.m c d
  have HB := Lib.hid hb1
  have HI : Hid (∀ x : Ext w1, BxIn x.v x.v.heap.size D p q) := fun x => (hi.bel hb1).bel x.b
  clear hb1 hz1 hi
  by_cases h : gE D fl = 0
  case neg =>
    rw [show svV D fl = 0 from if_neg h, show svE D fl = gE D fl from if_neg h]
    have HV := Lib.hid (allW_one fl 0 40)
    have j0 := askF_err h
    have HA := Lib.hid (show ∀ V : World, BxIn V V.heap.size D p q → Calls Try.prog 60 #[.agg #[.slice p D.n c, .slice q D.m d], .bool (within fl 0 40)] V fun e w' => e = .returned (.int .i64 (gE D fl)) ∧ Below V.heap.size V w' from fun V h => check_is rfl hn hm h)
    clear h
    go_enter Try.func39, Try.ntmps39
    go_wp2
    refine wp_region_lastE 5 (by kernel_rfl) rfl (fun yr => ?_)
    refine wpAnyG_take (i := 0) (v := ?_) (by kernel_rfl) rfl (by kernel_rfl) (by kernel_rfl) (by kernel_rfl) (fun _ _ _ h => h) (Or.inl ⟨by rfl, ?_⟩) ⟨_, rfl⟩ ?_
    rotate_left
    · rintro wS ⟨yS, rfl⟩
      go_simp
      try (with_reducible rfl)
    try simp only [Act.put, List.setIfInBounds_toArray, List.set_cons_zero, List.set_cons_succ]
    refine wpAnyG_take (i := 1) (v := ?_) (by kernel_rfl) rfl (by kernel_rfl) (by kernel_rfl) (by kernel_rfl) (fun _ _ _ h => h) (Or.inl ⟨by rfl, ?_⟩) ⟨_, rfl⟩ ?_
    rotate_left
    · rintro wS ⟨yS, rfl⟩
      go_simp
      try (with_reducible rfl)
    try simp only [Act.put, List.setIfInBounds_toArray, List.set_cons_zero, List.set_cons_succ]
    refine wpAnyG_one (i := 2) (by kernel_rfl) (by decide) (wpOp_plain rfl rfl ?_)
    go_simp
    obtain ⟨ya, hya, hna⟩ := one_flow (x := yr) (fl := fl) (t := 3)
    have HN := Lib.hid hna; clear hna
    rw [hya]; clear hya
    refine ⟨⟨_, rfl⟩, ?_⟩
    try simp only [Act.put, List.setIfInBounds_toArray, List.set_cons_zero, List.set_cons_succ]
    refine wpAnyG_one (i := 3) (by kernel_rfl) (by decide) (wpOp_plain rfl rfl ?_)
    go_simp
    go_at_call 62
    refine (areFlows_any 1 1 (fun _ => fl) _ _ (by omega) HN.out).mono ?_
    rintro e w' ⟨rfl, rfl⟩
    rw [HV.out]
    refine ⟨⟨_, rfl⟩, ?_⟩
    try simp only [Act.put, List.setIfInBounds_toArray, List.set_cons_zero, List.set_cons_succ]
    refine wpAnyG_one (i := 4) (by kernel_rfl) (by decide) (wpOp_plain rfl rfl ?_)
    go_simp
    go_at_call 60
    refine (quiet_x (HA.out _ (HI.out _))).mono ?_
    rintro e w' ⟨rfl, yc, rfl⟩
    refine ⟨⟨_, rfl⟩, ?_⟩
    try simp only [Act.put, List.setIfInBounds_toArray, List.set_cons_zero, List.set_cons_succ]
    refine wpAnyG_done (by kernel_rfl) (by kernel_rfl) (wpOp_plain rfl rfl ?_)
    go_simp
    go_wp2
    go_ret2
    exact ⟨rfl, bT HB.out yc.b⟩
  case pos =>
    obtain ⟨hok, F, rfl, hF⟩ := gE_parts h
    rw [show svV D (F : Int) = onI (wsA D (gv D F) D.n) from if_pos h, show svE D (F : Int) = noneE (wsA D (gv D F) D.n).isSome from if_pos h]
    have hw : within (F : Int) 0 40 = true := within_tt (by omega) (by omega)
    have HV := Lib.hid ((allW_one (F : Int) 0 40).trans hw)
    have HCE := Lib.hid (chkE_ok.2 ⟨hok, rfl⟩)
    have HOK := Lib.hid hok
    clear hw hok h
    go_enter Try.func39, Try.ntmps39
    go_wp2
    refine wp_region_lastE 5 (by kernel_rfl) rfl (fun yr => ?_)
    refine wpAnyG_take (i := 0) (v := ?_) (by kernel_rfl) rfl (by kernel_rfl) (by kernel_rfl) (by kernel_rfl) (fun _ _ _ h => h) (Or.inl ⟨by rfl, ?_⟩) ⟨_, rfl⟩ ?_
    rotate_left
    · rintro wS ⟨yS, rfl⟩
      go_simp
      try (with_reducible rfl)
    try simp only [Act.put, List.setIfInBounds_toArray, List.set_cons_zero, List.set_cons_succ]
    refine wpAnyG_take (i := 1) (v := ?_) (by kernel_rfl) rfl (by kernel_rfl) (by kernel_rfl) (by kernel_rfl) (fun _ _ _ h => h) (Or.inl ⟨by rfl, ?_⟩) ⟨_, rfl⟩ ?_
    rotate_left
    · rintro wS ⟨yS, rfl⟩
      go_simp
      try (with_reducible rfl)
    try simp only [Act.put, List.setIfInBounds_toArray, List.set_cons_zero, List.set_cons_succ]
    refine wpAnyG_one (i := 2) (by kernel_rfl) (by decide) (wpOp_plain rfl rfl ?_)
    go_simp
    obtain ⟨ya, hya, hna⟩ := one_flow (x := yr) (fl := (F : Int)) (t := 3)
    have HN := Lib.hid hna; clear hna
    rw [hya]; clear hya
    refine ⟨⟨_, rfl⟩, ?_⟩
    try simp only [Act.put, List.setIfInBounds_toArray, List.set_cons_zero, List.set_cons_succ]
    refine wpAnyG_one (i := 3) (by kernel_rfl) (by decide) (wpOp_plain rfl rfl ?_)
    go_simp
    go_at_call 62
    refine (areFlows_any 1 1 (fun _ => (F : Int)) _ _ (by omega) HN.out).mono ?_
    rintro e w' ⟨rfl, rfl⟩
    rw [HV.out]
    refine ⟨⟨_, rfl⟩, ?_⟩
    try simp only [Act.put, List.setIfInBounds_toArray, List.set_cons_zero, List.set_cons_succ]
    refine wpAnyG_one (i := 4) (by kernel_rfl) (by decide) (wpOp_plain rfl rfl ?_)
    go_simp
    go_at_call 60
    refine (quiet_x (check_is HCE.out hn hm (HI.out _))).mono ?_
    rintro e w' ⟨rfl, yc, rfl⟩
    refine ⟨⟨_, rfl⟩, ?_⟩
    try simp only [Act.put, List.setIfInBounds_toArray, List.set_cons_zero, List.set_cons_succ]
    refine wpAnyG_done (by kernel_rfl) (by kernel_rfl) (wpOp_plain rfl rfl ?_)
    go_simp
    go_wp2
    refine quiet_e (by kernel_rfl) (by kernel_rfl) ?_
    repeat (first | go_big_quiet_step ((first | (go_at_call 63; exact quiet_x (divide_any D p q c d F _ HOK.out hF (HI.out _))) | (go_at_call 80; exact quiet_x (worst_any D (gv D F) p q c d _ HOK.out (gv_20 HOK.out F) (HI.out _))) | (go_at_call 69; exact quiet_s (orNone_on _ _)))) | quiet_step ((first | (go_at_call 63; exact quiet_x (divide_any D p q c d F _ HOK.out hF (HI.out _))) | (go_at_call 80; exact quiet_x (worst_any D (gv D F) p q c d _ HOK.out (gv_20 HOK.out F) (HI.out _))) | (go_at_call 69; exact quiet_s (orNone_on _ _)))))
    refine wpQuiet_nil ?_
    intro w6 hw6
    obtain ⟨yq, rfl⟩ := hw6
    go_wp2
    go_ret2
    exact ⟨rfl, bT HB.out yq.b⟩
set_option maxRecDepth 100000 in
set_option maxHeartbeats 8000000 in
theorem servedR_any (D : Bx) (p q : Option Addr) (c d : Nat) (fl : Int) (w : World) (hn : D.n ≤ 40) (hm : D.m ≤ 40) (hi : BxIn w w.heap.size D p q) :
    Calls Try.prog 40 #[.agg #[.slice p D.n c, .slice q D.m d], .int .i64 fl] w fun e w' => e = .returned (.tuple #[.int .i64 (svV D fl), .int .i64 (svE D fl)]) ∧ Below w.heap.size w w' := by
  obtain ⟨w1, x, hw1, hb1, hz1, F0, F1⟩ := box_bx w p q D.n D.m c d
  have HB := Lib.hid hb1
  have HI : Hid (∀ x : Ext w1, BxIn x.v x.v.heap.size D p q) := fun x => (hi.bel hb1).bel x.b
  by_cases h : gE D fl = 0
  case neg =>
    rw [show svV D fl = 0 from if_neg h, show svE D fl = gE D fl from if_neg h]
    have j0 := askF_err h
    have HA := Lib.hid (show ∀ V : World, BxIn V V.heap.size D p q → Calls Try.prog 65 #[.agg #[.slice p D.n c, .slice q D.m d], .bool (within fl 0 40)] V fun e w' => e = .returned (.int .i64 (gE D fl)) ∧ Below V.heap.size V w' from fun V h => ask_is rfl hn hm h)
    clear h hb1 hz1 hi
    go_enter Try.func40, Try.ntmps40
    go_wp2
    refine quiet_e (by kernel_rfl) (by kernel_rfl) ?_
    repeat (first | go_big_quiet_step ((first | (go_at_call 58; exact quiet_s (isFlowR_any _ _)) | (go_at_call 65; exact quiet_x (HA.out _ (HI.out _))))) | quiet_step ((first | (go_at_call 58; exact quiet_s (isFlowR_any _ _)) | (go_at_call 65; exact quiet_x (HA.out _ (HI.out _))))))
    refine wpQuiet_nil ?_
    intro w6 hw6
    obtain ⟨yq, rfl⟩ := hw6
    go_wp2
    go_ret2
    exact ⟨rfl, bT HB.out yq.b⟩
  case pos =>
    obtain ⟨hok, F, rfl, hF⟩ := gE_parts h
    rw [show svV D (F : Int) = onI (wsA D (gv D F) D.n) from if_pos h, show svE D (F : Int) = noneE (wsA D (gv D F) D.n).isSome from if_pos h]
    have hw : within (F : Int) 0 40 = true := within_tt (by omega) (by omega)
    have HFL := Lib.hid (show ∀ V : World, Calls Try.prog 58 #[.int .i64 (F : Int)] V fun e w' => e = .returned (.bool true) ∧ V = w' from fun V => by
      have := isFlowR_any (F : Int) V
      rw [hw] at this
      exact this)
    have HCE := Lib.hid (chkE_ok.2 ⟨hok, rfl⟩)
    have HOK := Lib.hid hok
    have HO3 := Lib.hid (Bx.ok_parts hok).2.2.1
    have hn5 := (Bx.ok_parts hok).1
    clear h hok hw
    go_enter Try.func40, Try.ntmps40
    go_wp2
    refine quiet_e (by kernel_rfl) (by kernel_rfl) ?_
    repeat (first | go_big_quiet_step ((first | (go_at_call 58; exact quiet_s (HFL.out _)) | (go_at_call 65; exact quiet_x (ask_is HCE.out hn hm (HI.out _))))) | quiet_step ((first | (go_at_call 58; exact quiet_s (HFL.out _)) | (go_at_call 65; exact quiet_x (ask_is HCE.out hn hm (HI.out _))))))
    refine wpQuiet_nil ?_
    intro w6 hw6
    obtain ⟨yq, rfl⟩ := hw6
    go_wp2_with fail
    refine (gaugesOf_any D p q c d F _ HOK.out hF (HI.out _)).mono ?_
    rintro e w3 ⟨ya, ca, rfl, hca⟩
    have hx3 := bT yq.b hca.below
    have HX3 := Lib.hid hx3
    have HA : Hid (∀ z : Ext w3, NumIn z.v z.v.heap.size D.n (gv D F) ya) := fun z => hca.num.bel z.b
    have HI3 : Hid (∀ z : Ext w3, BxIn z.v z.v.heap.size D p q) := fun z => (hi.bel hb1).bel (bT hx3 z.b)
    replace F0 : ∀ y : Ext w3, y.v.cell? ⟨w.heap.size, 0, none⟩ = some (.slice p D.n c) := fun y => F0 (y.up hx3)
    replace F1 : ∀ y : Ext w3, y.v.cell? ⟨w.heap.size, 1, none⟩ = some (.slice q D.m d) := fun y => F1 (y.up hx3)
    obtain ⟨z3, hz3⟩ := rebase w3
    clear hca hx3 hb1 hz1 hi hw1
    rw [hz3]
    clear hz3
    go_wp2
    go_loopw [8, 9] (fun v i wr => ∃ k : Nat, i = .int .i64 (k : Int) ∧ v = .int .i64 (onJ (wsA D (gv D F) k)) ∧ k ≤ D.n ∧ ∃ z : Ext w3, wr = z.v) (fun _ i _ => D.n - (intOf i).toNat)
    case atStart => exact ⟨0, rfl, rfl, Nat.zero_le _, z3, rfl⟩
    case round =>
      obtain ⟨k, rfl, rfl, hk, z, rfl⟩ := hrel
      by_cases hlt : k < D.n
      · obtain ⟨b1, of1, rfl, _, _⟩ := (HI3.out z).s (by omega)
        obtain ⟨b3, of3, rfl, _, _⟩ := (HA.out z) (by omega)
        have E0 : ∀ z : Ext w3, z.v.cell? ⟨b1, of1 + k, none⟩ = some (.int .i64 (D.sh k)) := fun z => ((HI3.out z).s.cell hlt).2
        have E1 : ∀ z : Ext w3, z.v.cell? ⟨b3, of3 + k, none⟩ = some (.int .i64 (gv D F k)) := fun z => ((HA.out z).cell hlt).2
        have hkm : (k : Int) < (D.n : Int) := by omega
        have hsb := HO3.out k hlt
        by_cases hs : D.sh k = 0
        · have j0 : decide (0 < D.sh k) = false := by simp; omega
          have HN := Lib.hid (wsA_zero (g := gv D F) hs)
          clear hs hsb
          go_wp2
          refine quiet_e (by kernel_rfl) (by kernel_rfl) ?_
          repeat (first | go_big_quiet_step (fail) | quiet_step (fail))
          refine wpQuiet_nil ?_
          intro w6 hw6
          obtain ⟨y2, rfl⟩ := hw6
          go_wp2
          go_roundw
          case rel => exact ⟨k + 1, by go_num, by rw [HN.out], hlt, y2, rfl⟩
          case measure => first | (simp [intOf]; done) | (simp [intOf]; omega)
        · have j0 : decide (0 < D.sh k) = true := by simp; omega
          cases hws : wsA D (gv D F) k with
          | none =>
            have HN := Lib.hid (wsA_first hs hws)
            have f1 : onJ none = -1 := rfl
            clear hs hws hsb
            go_wp2
            refine quiet_e (by kernel_rfl) (by kernel_rfl) ?_
            repeat (first | go_big_quiet_step (fail) | quiet_step (fail))
            refine wpQuiet_nil ?_
            intro w6 hw6
            obtain ⟨y2, rfl⟩ := hw6
            go_wp2
            go_roundw
            case rel => exact ⟨k + 1, by go_num, by rw [HN.out] <;> rfl, hlt, y2, rfl⟩
            case measure => first | (simp [intOf]; done) | (simp [intOf]; omega)
          | some b =>
            have HN := Lib.hid (wsA_cmp hs hws)
            have hbk := wsA_lt hws
            have f1 : onJ (some b) = (b : Int) := rfl
            have hb0 : decide ((b : Int) < 0) = false := by simp
            have E2 : ∀ z : Ext w3, z.v.cell? ⟨b1, of1 + b, none⟩ = some (.int .i64 (D.sh b)) := fun z => ((HI3.out z).s.cell (by omega)).2
            have E3 : ∀ z : Ext w3, z.v.cell? ⟨b3, of3 + b, none⟩ = some (.int .i64 (gv D F b)) := fun z => ((HA.out z).cell (by omega)).2
            have hbm : (b : Int) < (D.n : Int) := by omega
            have m1 := mul_bd (a := gv D F k) (b := D.sh b) (A := 20) (B := 20) (gv_20 HOK.out F k) (HO3.out b (by omega)) (by omega)
            have m2 := mul_bd (a := gv D F b) (b := D.sh k) (A := 20) (B := 20) (gv_20 HOK.out F b) (HO3.out k hlt) (by omega)
            have HLS := Lib.hid (show ∀ V : World, Calls Try.prog 51 #[.int .i64 (gv D F k), .int .i64 (D.sh k), .int .i64 (gv D F b), .int .i64 (D.sh b)] V fun e w' => e = .returned (.bool (decide (gv D F k * D.sh b < gv D F b * D.sh k))) ∧ V = w' from fun V =>
              less_any (gv D F k) (D.sh k) (gv D F b) (D.sh b) V ⟨m1.1, by omega⟩ ⟨m2.1, by omega⟩)
            clear hs hws m1 m2 hsb
            cases hc : decide (gv D F k * D.sh b < gv D F b * D.sh k) with
            | true =>
              have HN2 := Lib.hid (HN.out.trans (by rw [hc]; rfl : (if decide (gv D F k * D.sh b < gv D F b * D.sh k) = true then some k else some b) = some k))
              rw [hc] at HLS
              clear hc
              go_wp2
              refine quiet_e (by kernel_rfl) (by kernel_rfl) ?_
              repeat (first | go_big_quiet_step ((first | (go_at_call 51; exact quiet_s (HLS.out _)))) | quiet_step ((first | (go_at_call 51; exact quiet_s (HLS.out _)))))
              refine wpQuiet_nil ?_
              intro w6 hw6
              obtain ⟨y2, rfl⟩ := hw6
              go_wp2
              go_roundw
              case rel => exact ⟨k + 1, by go_num, by rw [HN2.out] <;> rfl, hlt, y2, rfl⟩
              case measure => first | (simp [intOf]; done) | (simp [intOf]; omega)
            | false =>
              have HN2 := Lib.hid (HN.out.trans (by rw [hc]; rfl : (if decide (gv D F k * D.sh b < gv D F b * D.sh k) = true then some k else some b) = some b))
              rw [hc] at HLS
              clear hc
              go_wp2
              refine quiet_e (by kernel_rfl) (by kernel_rfl) ?_
              repeat (first | go_big_quiet_step ((first | (go_at_call 51; exact quiet_s (HLS.out _)))) | quiet_step ((first | (go_at_call 51; exact quiet_s (HLS.out _)))))
              refine wpQuiet_nil ?_
              intro w6 hw6
              obtain ⟨y2, rfl⟩ := hw6
              go_wp2
              go_roundw
              case rel => exact ⟨k + 1, by go_num, by rw [HN2.out] <;> rfl, hlt, y2, rfl⟩
              case measure => first | (simp [intOf]; done) | (simp [intOf]; omega)
      · have hkn : k = D.n := by omega
        have j : decide ((k : Int) < (D.n : Int)) = false := by simp; omega
        cases hws : wsA D (gv D F) k with
        | none =>
          have HR := Lib.hid (show wsA D (gv D F) D.n = none from by rw [← hkn]; exact hws)
          have f1 : onJ none = -1 := rfl
          clear hws hkn
          go_wp2
          go_ret2
          exact ⟨by rw [HR.out] <;> rfl, bT HB.out (bT HX3.out z.b)⟩
        | some b =>
          have HR := Lib.hid (show wsA D (gv D F) D.n = some b from by rw [← hkn]; exact hws)
          have f1 : onJ (some b) = (b : Int) := rfl
          have hb0 : decide ((b : Int) < 0) = false := by simp
          clear hws hkn
          go_wp2
          go_ret2
          exact ⟨by rw [HR.out] <;> rfl, bT HB.out (bT HX3.out z.b)⟩
end Go.Proofs.Ythbicbmlbblflaa
