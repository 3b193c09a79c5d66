/- Boxes of mouths: Exact, Remainders and Served of both. -/
import Derived.Test.YthbicbmlbblflaaC13

set_option linter.unusedSimpArgs false

set_option linter.unusedVariables false

namespace Go.Proofs.Ythbicbmlbblflaa

open Go.RowKit

set_option maxRecDepth 100000 in
set_option maxHeartbeats 2000000 in
theorem remR_any (D : Bx) (p q : Option Addr) (c d : Nat) (fl : Int) (w : World) (hn : D.n ≤ 40) (hm : D.m ≤ 40) (hi : BxIn w w.heap.size D p q) :
    Calls Try.prog 38 #[.agg #[.slice p D.n c, .slice q D.m d], .int .i64 fl] w fun e w' => ∃ y c', e = .returned (.tuple #[.slice y (gN D fl) c', .int .i64 (gE D fl)]) ∧ New w w' (gN D fl) (RM D fl) y := by
  obtain ⟨w1, x, hw1, hb1, hz1, F0, F1⟩ := box_bx w p q D.n D.m c d
  have HB := Lib.hid hb1
  have HI : Hid (∀ x : Ext w1, BxIn x.v x.v.heap.size D p q) := fun x => (hi.bel hb1).bel x.b
  clear hb1 hz1 hi
  by_cases h : gE D fl = 0
  case neg =>
    have j0 := askF_err h
    have HN := Lib.hid (show gN D fl = 0 from if_neg h)
    have HA := Lib.hid (show ∀ V : World, BxIn V V.heap.size D p q → Calls Try.prog 65 #[.agg #[.slice p D.n c, .slice q D.m d], .bool (within fl 0 40)] V fun e w' => e = .returned (.int .i64 (gE D fl)) ∧ Below V.heap.size V w' from fun V h => ask_is rfl hn hm h)
    clear h
    go_enter Try.func38, Try.ntmps38
    go_wp2
    refine quiet_e (by kernel_rfl) (by kernel_rfl) ?_
    repeat (first | go_big_quiet_step ((first | (go_at_call 58; exact quiet_s (isFlowR_any _ _)) | (go_at_call 65; exact quiet_x (HA.out _ (HI.out _))))) | quiet_step ((first | (go_at_call 58; exact quiet_s (isFlowR_any _ _)) | (go_at_call 65; exact quiet_x (HA.out _ (HI.out _))))))
    refine wpQuiet_nil ?_
    intro w6 hw6
    obtain ⟨yq, rfl⟩ := hw6
    go_wp2
    go_ret2
    rw [HN.out]
    exact ⟨none, 0, rfl, New.none (bT HB.out yq.b)⟩
  case pos =>
    have HN := Lib.hid (show gN D fl = D.n from if_pos h)
    have HG := Lib.hid h
    obtain ⟨hok, F, rfl, hF⟩ := gE_parts h
    have hw : within (F : Int) 0 40 = true := within_tt (by omega) (by omega)
    have HFL := Lib.hid (show ∀ V : World, Calls Try.prog 58 #[.int .i64 (F : Int)] V fun e w' => e = .returned (.bool true) ∧ V = w' from fun V => by
      have := isFlowR_any (F : Int) V
      rw [hw] at this
      exact this)
    have HCE := Lib.hid (chkE_ok.2 ⟨hok, rfl⟩)
    have HOK := Lib.hid hok
    clear h hok hw
    go_enter Try.func38, Try.ntmps38
    go_wp2
    refine quiet_e (by kernel_rfl) (by kernel_rfl) ?_
    repeat (first | go_big_quiet_step ((first | (go_at_call 58; exact quiet_s (HFL.out _)) | (go_at_call 65; exact quiet_x (ask_is HCE.out hn hm (HI.out _))))) | quiet_step ((first | (go_at_call 58; exact quiet_s (HFL.out _)) | (go_at_call 65; exact quiet_x (ask_is HCE.out hn hm (HI.out _))))))
    refine wpQuiet_nil ?_
    intro w6 hw6
    obtain ⟨yq, rfl⟩ := hw6
    go_wp2_with fail
    refine (remOf_any D p q c d F _ HOK.out hF (HI.out _)).mono ?_
    rintro e w3 ⟨y, c', rfl, hc⟩
    have HC : Hid (New w w3 D.n (RM D F) y) := ⟨bT HB.out (bT yq.b hc.below), fun h0 => by obtain ⟨g', e, h1, h2⟩ := hc.here h0; exact ⟨g', e, Nat.le_trans (bT HB.out yq.b).size h1, h2⟩⟩
    clear hc
    go_wp2
    go_ret2
    rw [HN.out, HG.out]
    exact ⟨_, _, rfl, HC.out⟩
theorem ex_red {D : Bx} {F k : Nat} (hok : D.ok = true) (hF : F ≤ 40) (hk : k < D.n) : ∃ x y : Nat, (F : Int) * D.sh k = (x : Int) ∧ mxA D = (y : Int) ∧ x ≤ 800 ∧ 0 < y ∧ y ≤ 100 ∧ rN x y = exN D F k ∧ rD x y = exD D F k := by
  have hpb := part_bd (fl := (F : Int)) hok ⟨by omega, by omega⟩ hk
  have hab := allS_bd hok
  obtain ⟨x, hx⟩ : ∃ x : Nat, (F : Int) * D.sh k = (x : Int) := ⟨((F : Int) * D.sh k).toNat, by omega⟩
  have hM : 1 ≤ mxA D ∧ mxA D ≤ 100 := by unfold mxA; split <;> omega
  obtain ⟨y, hy⟩ : ∃ y : Nat, mxA D = (y : Int) := ⟨(mxA D).toNat, by omega⟩
  refine ⟨x, y, hx, hy, by omega, by omega, by omega, ?_⟩
  by_cases ha : allS D = 0
  · have hsk : D.sh k = 0 := by have := sh_le_all hok hk; have := ((Bx.ok_parts hok).2.2.1 k hk).1; omega
    have hx0 : x = 0 := by rw [hsk] at hx; simp at hx; omega
    have hy1 : y = 1 := by have : mxA D = 1 := by unfold mxA; rw [ha]; rfl
                           omega
    subst hx0; subst hy1
    rw [show exN D F k = 0 from if_pos ha, show exD D F k = 1 from if_pos ha]
    exact ⟨rfl, rfl⟩
  · have hm : mxA D = allS D := by unfold mxA; rw [if_neg (by omega)]
    rw [show exN D F k = rN ((F : Int) * D.sh k).toNat (allS D).toNat from if_neg ha, show exD D F k = rD ((F : Int) * D.sh k).toNat (allS D).toNat from if_neg ha, hx, ← hm, hy]
    exact ⟨rfl, rfl⟩
set_option maxRecDepth 100000 in
set_option maxHeartbeats 8000000 in
theorem exactR_ok (D : Bx) (p q : Option Addr) (c d F : Nat) (w : World) (hok : D.ok = true) (hF : F ≤ 40) (hi : BxIn w w.heap.size D p q) :
    Calls Try.prog 36 #[.agg #[.slice p D.n c, .slice q D.m d], .int .i64 (F : Int)] w fun e w' => ∃ y c', e = .returned (.tuple #[.slice y D.n c', .int .i64 0]) ∧ Below w.heap.size w w' ∧ PairIn w' w'.heap.size D.n (exN D F) (exD D F) y := by
  obtain ⟨i0, hi0, hz0, hz1, hz2⟩ := info_parts infoRt
  have I1 := Lib.hid hi0; have I2 := Lib.hid hz0; have I3 := Lib.hid hz1; have I4 := Lib.hid hz2; clear hi0 hz0 hz1 hz2
  obtain ⟨w1, x, hw1, hb1, hz1, F0, F1⟩ := box_bx w p q D.n D.m c d
  have hn5 := (Bx.ok_parts hok).1
  have hm5 : D.m ≤ 5 := by have := (Bx.ok_parts hok).2.1; omega
  have HB := Lib.hid hb1
  have HI : Hid (∀ x : Ext w1, BxIn x.v x.v.heap.size D p q) := fun x => (hi.bel hb1).bel x.b
  have hw : within (F : Int) 0 40 = true := within_tt (by omega) (by omega)
  have HFL := Lib.hid (show ∀ V : World, Calls Try.prog 58 #[.int .i64 (F : Int)] V fun e w' => e = .returned (.bool true) ∧ V = w' from fun V => by
    have := isFlowR_any (F : Int) V
    rw [hw] at this
    exact this)
  have HCE := Lib.hid (chkE_ok.2 ⟨hok, rfl⟩)
  have HOK := Lib.hid hok
  have hab := allS_bd hok
  obtain ⟨A, hA⟩ : ∃ A, allS D = A := ⟨_, rfl⟩
  have HS := Lib.hid (show ∀ V : World, BxIn V V.heap.size D p q → Calls Try.prog 49 #[.slice p D.n c] V fun e w' => e = .returned (.int .i64 A) ∧ V = w' from fun V h => by
    have := sumR_any D.n c D.sh p V (by omega) (sh_1000 hok) h.s
    rw [show sumN D.sh D.n = A from hA] at this
    exact this)
  have HMA : Hid (mxA D = if A < 1 then 1 else A) := by rw [← hA]; rfl
  clear hb1 hz1 hi hw hok hab hA
  go_enter Try.func36, Try.ntmps36
  go_wp2
  refine quiet_e (by kernel_rfl) (by kernel_rfl) ?_
  repeat (first | go_big_quiet_step ((first | (go_at_call 58; exact quiet_s (HFL.out _)) | (go_at_call 65; exact quiet_x (ask_is HCE.out (by omega) (by omega) (HI.out _))))) | quiet_step ((first | (go_at_call 58; exact quiet_s (HFL.out _)) | (go_at_call 65; exact quiet_x (ask_is HCE.out (by omega) (by omega) (HI.out _))))))
  refine wpQuiet_nil ?_
  intro w6 hw6
  obtain ⟨yq, rfl⟩ := hw6
  go_wp2
  clear hw1
  go_loopw [7, 8] (fun v i wr => ∃ k : Nat, i = .int .i64 (k : Int) ∧ k ≤ D.n ∧ ∃ x : Ext w1, wr = x.v ∧ x.v.ownsRow w1.heap.size 63 2 v k (row2 (exN D F) (exD D F) k)) (fun _ i _ => D.n - (intOf i).toNat)
  case atStart => exact ⟨0, rfl, Nat.zero_le _, _, rfl, World.ownsRow_nil _ _ _ _⟩
  case round =>
    obtain ⟨k, rfl, hk, y, rfl, ho⟩ := hrel
    have HO := Lib.hid ho; clear ho
    by_cases hlt : k < D.n
    · have hkm : (k : Int) < (D.n : Int) := by omega
      obtain ⟨b1, of1, rfl, _, _⟩ := (HI.out y).s (by omega)
      have E0 : ∀ z : Ext w1, z.v.cell? ⟨b1, of1 + k, none⟩ = some (.int .i64 (D.sh k)) := fun z => ((HI.out z).s.cell hlt).2
      obtain ⟨pr, cr, rfl, _⟩ := own_form HO.out
      obtain ⟨X, Y, hx, hy, hX8, hY0, hY1, hrn, hrd⟩ := ex_red (D := D) (F := F) HOK.out hF hlt
      have ew : IntKind.i64.wrap ((F : Int) * D.sh k) = (X : Int) := by rw [hx]; exact IntWalk.i64_in _ (by omega)
      have ew2 : (F : Int) * D.sh k = (X : Int) := hx
      have hMA := HMA.out
      rw [hy] at hMA
      have hMx : (if A < 1 then 1 else A) = (Y : Int) := hMA.symm
      have hMx2 : (if 1 < A then A else 1) = (Y : Int) := by rw [hMA]; split <;> split <;> omega
      have HRED := Lib.hid (show ∀ V : World, Calls Try.prog 56 #[.int .i64 (X : Int), .int .i64 (Y : Int)] V fun e w' => e = .returned (.agg #[.int .i64 (exN D F k), .int .i64 (exD D F k)]) ∧ Below V.heap.size V w' from fun V => by
        have := reduced_any X Y V (by omega) hY0 (by omega)
        rw [hrn, hrd] at this
        exact this)
      have hXw : IntKind.i64.wrap (X : Int) = (X : Int) := IntWalk.i64_in _ (by omega)
      clear hx hy hrn hrd hMA
      go_wp2
      refine wp_region_last (fun W => ∃ z : Ext w1, W = z.v) 15 (by kernel_rfl) rfl ⟨⟨_, bd y.b⟩, rfl⟩ (fun _ => ?_)
      have HO1 := Lib.hid (own_below HO.out (bd (Below.refl _ _)))
      obtain ⟨ys, hys⟩ : ∃ zz : Ext w1, y.v.drew = zz.v := ⟨⟨_, bd y.b⟩, rfl⟩
      rw [hys] at HO1 ⊢
      clear hys
      refine wpAnyG_take (i := 0) (v := ?_) (by kernel_rfl) rfl (by kernel_rfl) (by kernel_rfl) (by kernel_rfl) (fun _ _ _ h => h) (Or.inl ⟨by rfl, ?_⟩) ⟨_, rfl⟩ ?_
      rotate_left
      · rintro wS ⟨yS, rfl⟩
        go_simp
        try (with_reducible rfl)
      try simp only [Act.put, List.setIfInBounds_toArray, List.set_cons_zero, List.set_cons_succ]
      refine wpAnyG_take (i := 1) (v := ?_) (by kernel_rfl) rfl (by kernel_rfl) (by kernel_rfl) (by kernel_rfl) (fun _ _ _ h => h) (Or.inl ⟨by rfl, ?_⟩) ⟨_, rfl⟩ ?_
      rotate_left
      · rintro wS ⟨yS, rfl⟩
        go_simp
        try (with_reducible rfl)
      try simp only [Act.put, List.setIfInBounds_toArray, List.set_cons_zero, List.set_cons_succ]
      refine wpAnyG_take (i := 2) (v := ?_) (by kernel_rfl) rfl (by kernel_rfl) (by kernel_rfl) (by kernel_rfl) (fun _ _ _ h => h) (Or.inl ⟨by rfl, ?_⟩) ⟨_, rfl⟩ ?_
      rotate_left
      · rintro wS ⟨yS, rfl⟩
        go_simp
        try (with_reducible rfl)
      try simp only [Act.put, List.setIfInBounds_toArray, List.set_cons_zero, List.set_cons_succ]
      refine wpAnyG_take (i := 3) (v := ?_) (by kernel_rfl) rfl (by kernel_rfl) (by kernel_rfl) (by kernel_rfl) (fun _ _ _ h => h) (Or.inl ⟨by rfl, ?_⟩) ⟨_, rfl⟩ ?_
      rotate_left
      · rintro wS ⟨yS, rfl⟩
        go_simp
        try (with_reducible rfl)
      try simp only [Act.put, List.setIfInBounds_toArray, List.set_cons_zero, List.set_cons_succ]
      refine wpAnyG_take (i := 4) (v := ?_) (by kernel_rfl) rfl (by kernel_rfl) (by kernel_rfl) (by kernel_rfl) (fun _ _ _ h => h) (Or.inl ⟨by rfl, ?_⟩) ⟨_, rfl⟩ ?_
      rotate_left
      · rintro wS ⟨yS, rfl⟩
        go_simp
        try (with_reducible rfl)
      try simp only [Act.put, List.setIfInBounds_toArray, List.set_cons_zero, List.set_cons_succ]
      refine wpAnyG_take (i := 5) (v := ?_) (by kernel_rfl) rfl (by kernel_rfl) (by kernel_rfl) (by kernel_rfl) (fun _ _ _ h => h) (Or.inl ⟨by rfl, ?_⟩) ⟨_, rfl⟩ ?_
      rotate_left
      · rintro wS ⟨yS, rfl⟩
        go_simp
        try (with_reducible rfl)
      try simp only [Act.put, List.setIfInBounds_toArray, List.set_cons_zero, List.set_cons_succ]
      refine wpAnyG_take (i := 6) (v := ?_) (by kernel_rfl) rfl (by kernel_rfl) (by kernel_rfl) (by kernel_rfl) (fun _ _ _ h => h) (Or.inl ⟨by rfl, ?_⟩) ⟨_, rfl⟩ ?_
      rotate_left
      · rintro wS ⟨yS, rfl⟩
        go_simp
        try (with_reducible rfl)
      try simp only [Act.put, List.setIfInBounds_toArray, List.set_cons_zero, List.set_cons_succ]
      refine wpAnyG_take (i := 7) (v := ?_) (by kernel_rfl) rfl (by kernel_rfl) (by kernel_rfl) (by kernel_rfl) (fun _ _ _ h => h) (Or.inl ⟨by rfl, ?_⟩) ⟨_, rfl⟩ ?_
      rotate_left
      · rintro wS ⟨yS, rfl⟩
        go_simp
        try (with_reducible rfl)
      try simp only [Act.put, List.setIfInBounds_toArray, List.set_cons_zero, List.set_cons_succ]
      refine wpAnyG_take (i := 8) (v := ?_) (by kernel_rfl) rfl (by kernel_rfl) (by kernel_rfl) (by kernel_rfl) (fun _ _ _ h => h) (Or.inl ⟨by rfl, ?_⟩) ⟨_, rfl⟩ ?_
      rotate_left
      · rintro wS ⟨yS, rfl⟩
        go_simp
        try (with_reducible rfl)
      try simp only [Act.put, List.setIfInBounds_toArray, List.set_cons_zero, List.set_cons_succ]
      refine wpAnyG_take (i := 9) (v := ?_) (by kernel_rfl) rfl (by kernel_rfl) (by kernel_rfl) (by kernel_rfl) (fun _ _ _ h => h) (Or.inl ⟨by rfl, ?_⟩) ⟨_, rfl⟩ ?_
      rotate_left
      · rintro wS ⟨yS, rfl⟩
        go_simp
        try (with_reducible rfl)
      try simp only [Act.put, List.setIfInBounds_toArray, List.set_cons_zero, List.set_cons_succ]
      refine wpAnyG_one (i := 10) (by kernel_rfl) (by decide) (wpOp_plain rfl rfl ?_)
      go_simp
      go_at_call 49
      refine (HS.out _ (HI.out _)).mono ?_
      rintro e w' ⟨rfl, rfl⟩
      refine ⟨⟨_, rfl⟩, ?_⟩
      try simp only [Act.put, List.setIfInBounds_toArray, List.set_cons_zero, List.set_cons_succ]
      refine wpAnyG_one (i := 11) (by kernel_rfl) (by decide) (wpOp_plain rfl rfl ?_)
      go_simp
      refine ⟨⟨_, rfl⟩, ?_⟩
      try simp only [Act.put, List.setIfInBounds_toArray, List.set_cons_zero, List.set_cons_succ]
      refine wpAnyG_one (i := 12) (by kernel_rfl) (by decide) (wpOp_plain rfl rfl ?_)
      go_simp
      go_at_call 56
      refine (HRED.out _).mono ?_
      rintro e w' ⟨rfl, hbr⟩
      have HO2 := Lib.hid (own_below HO1.out hbr)
      obtain ⟨y3, rfl⟩ : ∃ zz : Ext w1, w' = zz.v := ⟨⟨_, bT ys.b hbr⟩, rfl⟩
      clear hbr
      refine ⟨⟨_, rfl⟩, ?_⟩
      try simp only [Act.put, List.setIfInBounds_toArray, List.set_cons_zero, List.set_cons_succ]
      refine wpAnyG_one (i := 13) (by kernel_rfl) (by decide) (wpOp_plain rfl rfl ?_)
      go_simp
      have hnw : (y3.v.alloc (Obj.cells #[.int .i64 (exN D F k), .int .i64 (exD D F k)] 63)).heap[y3.v.heap.size]? = some (Obj.cells #[.int .i64 (exN D F k), .int .i64 (exD D F k)] 63) := heap_alloc_new _
      have ho3 := HO2.out.alloc (Obj.cells #[.int .i64 (exN D F k), .int .i64 (exD D F k)] 63)
      obtain ⟨y4, hy4⟩ : ∃ zz : Ext w1, y3.v.alloc (Obj.cells #[.int .i64 (exN D F k), .int .i64 (exD D F k)] 63) = zz.v := ⟨⟨_, bA y3.b _⟩, rfl⟩
      obtain ⟨B4, hB4⟩ : ∃ B, y3.v.heap.size = B := ⟨_, rfl⟩
      rw [hy4] at hnw ho3 ⊢
      rw [hB4] at hnw ⊢
      have HNW := Lib.hid hnw; have HO3 := Lib.hid ho3
      clear hnw ho3 hy4 hB4
      refine ⟨⟨_, rfl⟩, ?_⟩
      try simp only [Act.put, List.setIfInBounds_toArray, List.set_cons_zero, List.set_cons_succ]
      refine wpAnyG_one (i := 14) (by kernel_rfl) (by decide) (wpOp_plain rfl rfl ?_)
      refine wp_append_own (w := y4.v) (.tmp 23) (.tmp 36) 46 rfl w1.heap.size 63 i0 _ 2 16 Try.underlying46 I1.out I2.out I3.out I4.out rfl (by decide) (.slice pr k cr) k _ (by simp [Act.eval, Act.put]) HO3.out ⟨B4, 0, none⟩ 1 1 [.int .i64 (exN D F k), .int .i64 (exD D F k)] (by simp [Act.eval, Act.put]) rfl (World.news_of_block HNW.out) (by simp [Value.oneCell']) (by unfold maxLen; omega) (by omega) y4.b.size ?_
      intro v' w4 hown hgrow _
      have HB4 := Lib.hid (below_grown y4.b HO3.out (Nat.le_refl _) hgrow)
      have HOW := Lib.hid hown
      clear hown hgrow
      refine ⟨⟨⟨w4, HB4.out⟩, rfl⟩, ?_⟩
      try simp only [Act.put, List.setIfInBounds_toArray, List.set_cons_zero, List.set_cons_succ]
      refine wpAnyG_done (by kernel_rfl) (by kernel_rfl) (wpOp_plain rfl rfl ?_)
      go_simp
      go_wp2
      go_roundw
      case rel => exact ⟨k + 1, by go_num, hlt, ⟨w4, HB4.out⟩, rfl, HOW.out⟩
      case measure => first | (simp [intOf]; done) | (simp [intOf]; omega)
    · obtain rfl : k = D.n := by omega
      obtain ⟨pr, cr, rfl, hnum⟩ := pair_own HO.out
      have HN := Lib.hid hnum
      have j : decide ((D.n : Int) < (D.n : Int)) = false := by simp
      clear hnum hlt
      go_wp2
      go_ret2
      exact ⟨_, _, rfl, bT HB.out y.b, HN.out⟩
theorem exactP_any (D : Bx) (p q : Option Addr) (c d : Nat) (fl : Int) (w : World) (hn : D.n ≤ 40) (hm : D.m ≤ 40) (hi : BxIn w w.heap.size D p q) :
    Calls Try.prog 35 #[.agg #[.slice p D.n c, .slice q D.m d], .int .i64 fl] w fun e w' => ∃ y c', e = .returned (.tuple #[.slice y (gN D fl) c', .int .i64 (gE D fl)]) ∧ Below w.heap.size w w' ∧ PairIn w' w'.heap.size (gN D fl) (exN D fl) (exD D fl) y := by
  by_cases h : gE D fl = 0
  · obtain ⟨hok, F, rfl, hF⟩ := gE_parts h
    refine (exactP_ok D p q c d F w hok hF hi).mono ?_
    rintro e w' ⟨y, c', rfl, hb, hp⟩
    refine ⟨y, c', by rw [h, show gN D (F : Int) = D.n from if_pos h], hb, ?_⟩
    rw [show gN D (F : Int) = D.n from if_pos h]
    exact hp
  · refine (exactP_err D p q c d fl w hn hm hi h).mono ?_
    rintro e w' ⟨rfl, hb⟩
    rw [show gN D fl = 0 from if_neg h]
    exact ⟨none, 0, rfl, hb, fun h0 => absurd h0 (Nat.lt_irrefl 0)⟩
set_option maxRecDepth 100000 in
set_option maxHeartbeats 4000000 in
theorem exactR_any (D : Bx) (p q : Option Addr) (c d : Nat) (fl : Int) (w : World) (hn : D.n ≤ 40) (hm : D.m ≤ 40) (hi : BxIn w w.heap.size D p q) :
    Calls Try.prog 36 #[.agg #[.slice p D.n c, .slice q D.m d], .int .i64 fl] w fun e w' => ∃ y c', e = .returned (.tuple #[.slice y (gN D fl) c', .int .i64 (gE D fl)]) ∧ Below w.heap.size w w' ∧ PairIn w' w'.heap.size (gN D fl) (exN D fl) (exD D fl) y := by
  by_cases h : gE D fl = 0
  case pos =>
    obtain ⟨hok, F, rfl, hF⟩ := gE_parts h
    refine (exactR_ok D p q c d F w hok hF hi).mono ?_
    rintro e w' ⟨y, c', rfl, hb, hp⟩
    refine ⟨y, c', by rw [h, show gN D (F : Int) = D.n from if_pos h], hb, ?_⟩
    rw [show gN D (F : Int) = D.n from if_pos h]
    exact hp
  case neg =>
    obtain ⟨w1, x, hw1, hb1, hz1, F0, F1⟩ := box_bx w p q D.n D.m c d
    have HB := Lib.hid hb1
    have HI : Hid (∀ x : Ext w1, BxIn x.v x.v.heap.size D p q) := fun x => (hi.bel hb1).bel x.b
    clear hb1 hz1 hi
    have j0 := askF_err h
    have HN := Lib.hid (show gN D fl = 0 from if_neg h)
    have HA := Lib.hid (show ∀ V : World, BxIn V V.heap.size D p q → Calls Try.prog 65 #[.agg #[.slice p D.n c, .slice q D.m d], .bool (within fl 0 40)] V fun e w' => e = .returned (.int .i64 (gE D fl)) ∧ Below V.heap.size V w' from fun V h => ask_is rfl hn hm h)
    clear h
    go_enter Try.func36, Try.ntmps36
    go_wp2
    refine quiet_e (by kernel_rfl) (by kernel_rfl) ?_
    repeat (first | go_big_quiet_step ((first | (go_at_call 58; exact quiet_s (isFlowR_any _ _)) | (go_at_call 65; exact quiet_x (HA.out _ (HI.out _))))) | quiet_step ((first | (go_at_call 58; exact quiet_s (isFlowR_any _ _)) | (go_at_call 65; exact quiet_x (HA.out _ (HI.out _))))))
    refine wpQuiet_nil ?_
    intro w6 hw6
    obtain ⟨yq, rfl⟩ := hw6
    go_wp2
    go_ret2
    rw [HN.out]
    exact ⟨none, 0, rfl, bT HB.out yq.b, fun h0 => absurd h0 (Nat.lt_irrefl 0)⟩
theorem neq_pairQ (a b : Int) (w : World) : (binOp .neq 63 (.agg #[.int .i64 a, .int .i64 b]) (.agg #[.int .i64 a, .int .i64 b])).run Try.prog w = .ok (.bool false) w := by
  go_simp
set_option maxRecDepth 100000 in
set_option maxHeartbeats 4000000 in
theorem sameRatios_any (l : Nat) (f h : Nat → Int) (p q : Option Addr) (c d : Nat) (w : World) (hl : l ≤ 1000) (h1 : PairIn w w.heap.size l f h p) (h2 : PairIn w w.heap.size l f h q) :
    Calls Try.prog 41 #[.slice p l c, .slice q l d] w fun e w' => e = .returned (.bool true) ∧ Below w.heap.size w w' := by
  obtain ⟨x, hx⟩ := rebase w
  have H1 : Hid (∀ z : Ext w, PairIn z.v z.v.heap.size l f h p) := fun z => h1.bel z.b
  have H2 : Hid (∀ z : Ext w, PairIn z.v z.v.heap.size l f h q) := fun z => h2.bel z.b
  have d1 : ((l : Int) != (l : Int)) = false := by simp
  have HG : Hid (∀ w', (∃ z : Ext w, w' = z.v) → Below w.heap.size w w') := fun w' ⟨z, h⟩ => h ▸ z.b
  clear h1 h2
  go_enter Try.func41, Try.ntmps41
  go_wp2
  go_loopw [5] (fun i wr => ∃ k : Nat, i = .int .i64 k ∧ k ≤ l ∧ ∃ x : Ext w, wr = x.v) (fun i _ => l - (intOf i).toNat)
  case atStart => exact ⟨0, rfl, Nat.zero_le _, x, by first | exact hx | rfl⟩
  case round =>
    clear hx x
    obtain ⟨k, rfl, hk, y, rfl⟩ := hrel
    by_cases hlt : k < l
    · obtain ⟨b1, rfl, _, hc1⟩ := H1.out y (by omega)
      obtain ⟨b2, rfl, _, hc2⟩ := H2.out y (by omega)
      have cell : ∀ (g : Nat), (∀ z : Ext w, PairIn z.v z.v.heap.size l f h (some ⟨g, 0, none⟩)) → ∀ z : Ext w, z.v.cell? ⟨g, k * 2, none⟩ = some (.int .i64 (f k)) ∧ z.v.cell? ⟨g, k * 2 + 1, none⟩ = some (.int .i64 (h k)) := fun g H z => by
        obtain ⟨g', e, _, hc⟩ := (H z) (by omega)
        have e2 : g = g' := by simpa using e
        subst e2
        exact hc k hlt
      have C1 : ∀ z : Ext w, z.v.cell? ⟨b1, k * 2, none⟩ = some (.int .i64 (f k)) := fun z => (cell b1 H1.out z).1
      have C2 : ∀ z : Ext w, z.v.cell? ⟨b1, k * 2 + 1, none⟩ = some (.int .i64 (h k)) := fun z => (cell b1 H1.out z).2
      have C3 : ∀ z : Ext w, z.v.cell? ⟨b2, k * 2, none⟩ = some (.int .i64 (f k)) := fun z => (cell b2 H2.out z).1
      have C4 : ∀ z : Ext w, z.v.cell? ⟨b2, k * 2 + 1, none⟩ = some (.int .i64 (h k)) := fun z => (cell b2 H2.out z).2
      have j : decide ((k : Int) < (l : Int)) = true := by simp; omega
      have j2 : (k : Int) < (l : Int) := by omega
      have hnp := fun w => neq_pairQ (f k) (h k) w
      clear cell hc1 hc2
      go_wp2
      refine quiet_e (by kernel_rfl) (by kernel_rfl) ?_
      repeat (first | go_big_quiet_step (fail) | quiet_step (fail))
      refine wpQuiet_nil ?_
      intro w6 hw6
      obtain ⟨u2, rfl⟩ := hw6
      go_wp2
      go_roundw
      case rel => exact ⟨k + 1, by go_num, hlt, u2, rfl⟩
      case measure => first | (simp [intOf]; done) | (simp [intOf]; omega)
    · have j : decide ((k : Int) < (l : Int)) = false := by simp; omega
      go_wp2
      go_ret
      exact ⟨rfl, HG.out _ ⟨y, rfl⟩⟩
end Go.Proofs.Ythbicbmlbblflaa
