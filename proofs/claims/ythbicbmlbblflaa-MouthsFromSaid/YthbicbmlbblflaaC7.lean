/- Boxes of mouths: Gauges, Over and Turn in the specification's words; what the laws compare. -/
import Derived.Test.YthbicbmlbblflaaC6

set_option linter.unusedSimpArgs false

set_option linter.unusedVariables false

namespace Go.Proofs.Ythbicbmlbblflaa

open Go.RowKit

def gE (D : Bx) (fl : Int) : Int := chkE D.ok (within fl 0 40)
def gN (D : Bx) (fl : Int) : Nat := if gE D fl = 0 then D.n else 0
def ovV (D : Bx) (fl : Int) : Int := if gE D fl = 0 then fl - sumN (gv D fl.toNat) D.n else 0
def tE0 (D : Bx) (k : Int) : Int := chkE D.ok (within k 0 39)
def tvV (D : Bx) (k : Int) : Int := if tE0 D k = 0 then onI (nx D (gv D k.toNat)) else 0
def tvE (D : Bx) (k : Int) : Int := if tE0 D k = 0 then noneE (nx D (gv D k.toNat)).isSome else tE0 D k
theorem gE_parts {D : Bx} {fl : Int} (h : gE D fl = 0) : D.ok = true ∧ ∃ F : Nat, fl = (F : Int) ∧ F ≤ 40 := by
  obtain ⟨h1, h2⟩ := chkE_ok.1 h
  rw [within_iff] at h2
  exact ⟨h1, fl.toNat, by omega, by omega⟩
theorem tE_parts {D : Bx} {k : Int} (h : tE0 D k = 0) : D.ok = true ∧ ∃ K : Nat, k = (K : Int) ∧ K < 40 := by
  obtain ⟨h1, h2⟩ := chkE_ok.1 h
  rw [within_iff] at h2
  exact ⟨h1, k.toNat, by omega, by omega⟩
theorem New.none {w w' : World} {f : Nat → Int} (h : Below w.heap.size w w') : New w w' 0 f none := ⟨h, fun h0 => absurd h0 (Nat.lt_irrefl 0)⟩
theorem gaugesP_any (D : Bx) (p q : Option Addr) (c d : Nat) (fl : Int) (w : World) (hn : D.n ≤ 40) (hm : D.m ≤ 40) (hi : BxIn w w.heap.size D p q) :
    Calls Try.prog 20 #[.agg #[.slice p D.n c, .slice q D.m d], .int .i64 fl] w fun e w' => ∃ y c', e = .returned (.tuple #[.slice y (gN D fl) c', .int .i64 (gE D fl)]) ∧ New w w' (gN D fl) (gv D fl.toNat) y := by
  by_cases h : gE D fl = 0
  · obtain ⟨hok, F, rfl, hF⟩ := gE_parts h
    refine (gaugesP_ok D p q c d F w hok hF hi).mono ?_
    rintro e w' ⟨y, c', rfl, hc⟩
    refine ⟨y, c', by rw [h, show gN D (F : Int) = D.n from if_pos h], ?_⟩
    rw [show gN D (F : Int) = D.n from if_pos h]
    exact hc
  · refine (gaugesP_err D p q c d fl w hn hm hi h).mono ?_
    rintro e w' ⟨rfl, hb⟩
    rw [show gN D fl = 0 from if_neg h]
    exact ⟨none, 0, rfl, New.none hb⟩
theorem overP_any (D : Bx) (p q : Option Addr) (c d : Nat) (fl : Int) (w : World) (hn : D.n ≤ 40) (hm : D.m ≤ 40) (hi : BxIn w w.heap.size D p q) :
    Calls Try.prog 22 #[.agg #[.slice p D.n c, .slice q D.m d], .int .i64 fl] w fun e w' => e = .returned (.tuple #[.int .i64 (ovV D fl), .int .i64 (gE D fl)]) ∧ Below w.heap.size w w' := by
  by_cases h : gE D fl = 0
  · obtain ⟨hok, F, rfl, hF⟩ := gE_parts h
    refine (overP_ok D p q c d F w hok hF hi).mono ?_
    rintro e w' ⟨rfl, hc⟩
    exact ⟨by rw [h, show ovV D (F : Int) = _ from if_pos h]; rfl, hc⟩
  · refine (overP_err D p q c d fl w hn hm hi h).mono ?_
    rintro e w' ⟨rfl, hb⟩
    exact ⟨by rw [show ovV D fl = 0 from if_neg h]; rfl, hb⟩
theorem turnP_any (D : Bx) (p q : Option Addr) (c d : Nat) (k : Int) (w : World) (hn : D.n ≤ 40) (hm : D.m ≤ 40) (hi : BxIn w w.heap.size D p q) :
    Calls Try.prog 24 #[.agg #[.slice p D.n c, .slice q D.m d], .int .i64 k] w fun e w' => e = .returned (.tuple #[.int .i64 (tvV D k), .int .i64 (tvE D k)]) ∧ Below w.heap.size w w' := by
  by_cases h : tE0 D k = 0
  · obtain ⟨hok, K, rfl, hK⟩ := tE_parts h
    refine (turnP_ok D p q c d K w hok hK hi).mono ?_
    rintro e w' ⟨rfl, hc⟩
    exact ⟨by rw [show tvV D (K : Int) = _ from if_pos h, show tvE D (K : Int) = _ from if_pos h]; rfl, hc⟩
  · refine (turnP_err D p q c d k w hn hm hi h).mono ?_
    rintro e w' ⟨rfl, hb⟩
    exact ⟨by rw [show tvV D k = 0 from if_neg h, show tvE D k = _ from if_neg h]; rfl, hb⟩
theorem askF_err {D : Bx} {fl : Int} (he : gE D fl ≠ 0) : (gE D fl != 0) = true := by simpa using he
set_option maxRecDepth 100000 in
set_option maxHeartbeats 2000000 in
theorem gaugesR_any (D : Bx) (p q : Option Addr) (c d : Nat) (fl : Int) (w : World) (hn : D.n ≤ 40) (hm : D.m ≤ 40) (hi : BxIn w w.heap.size D p q) :
    Calls Try.prog 21 #[.agg #[.slice p D.n c, .slice q D.m d], .int .i64 fl] w fun e w' => ∃ y c', e = .returned (.tuple #[.slice y (gN D fl) c', .int .i64 (gE D fl)]) ∧ New w w' (gN D fl) (gv D fl.toNat) y := by
  obtain ⟨w1, x, hw1, hb1, hz1, F0, F1⟩ := box_bx w p q D.n D.m c d
  have HB := Lib.hid hb1
  have HI : Hid (∀ x : Ext w1, BxIn x.v x.v.heap.size D p q) := fun x => (hi.bel hb1).bel x.b
  clear hb1 hz1 hi
  by_cases h : gE D fl = 0
  case neg =>
    have j0 := askF_err h
    have HN := Lib.hid (show gN D fl = 0 from if_neg h)
    have HA := Lib.hid (show ∀ V : World, BxIn V V.heap.size D p q → Calls Try.prog 65 #[.agg #[.slice p D.n c, .slice q D.m d], .bool (within fl 0 40)] V fun e w' => e = .returned (.int .i64 (gE D fl)) ∧ Below V.heap.size V w' from fun V h => ask_is rfl hn hm h)
    clear h
    go_enter Try.func21, Try.ntmps21
    go_wp2
    refine quiet_e (by kernel_rfl) (by kernel_rfl) ?_
    repeat (first | go_big_quiet_step ((first | (go_at_call 58; exact quiet_s (isFlowR_any _ _)) | (go_at_call 65; exact quiet_x (HA.out _ (HI.out _))))) | quiet_step ((first | (go_at_call 58; exact quiet_s (isFlowR_any _ _)) | (go_at_call 65; exact quiet_x (HA.out _ (HI.out _))))))
    refine wpQuiet_nil ?_
    intro w6 hw6
    obtain ⟨yq, rfl⟩ := hw6
    go_wp2
    go_ret2
    rw [HN.out]
    exact ⟨none, 0, rfl, New.none (bT HB.out yq.b)⟩
  case pos =>
    have HN := Lib.hid (show gN D fl = D.n from if_pos h)
    have HG := Lib.hid h
    obtain ⟨hok, F, rfl, hF⟩ := gE_parts h
    have hw : within (F : Int) 0 40 = true := within_tt (by omega) (by omega)
    have HFL := Lib.hid (show ∀ V : World, Calls Try.prog 58 #[.int .i64 (F : Int)] V fun e w' => e = .returned (.bool true) ∧ V = w' from fun V => by
      have := isFlowR_any (F : Int) V
      rw [hw] at this
      exact this)
    have HCE := Lib.hid (chkE_ok.2 ⟨hok, rfl⟩)
    have HOK := Lib.hid hok
    clear h hok hw
    go_enter Try.func21, Try.ntmps21
    go_wp2
    refine quiet_e (by kernel_rfl) (by kernel_rfl) ?_
    repeat (first | go_big_quiet_step ((first | (go_at_call 58; exact quiet_s (HFL.out _)) | (go_at_call 65; exact quiet_x (ask_is HCE.out hn hm (HI.out _))))) | quiet_step ((first | (go_at_call 58; exact quiet_s (HFL.out _)) | (go_at_call 65; exact quiet_x (ask_is HCE.out hn hm (HI.out _))))))
    refine wpQuiet_nil ?_
    intro w6 hw6
    obtain ⟨yq, rfl⟩ := hw6
    go_wp2_with fail
    refine (gaugesOf_any D p q c d F _ HOK.out hF (HI.out _)).mono ?_
    rintro e w3 ⟨y, c', rfl, hc⟩
    have HC : Hid (New w w3 D.n (gv D F) y) := ⟨bT HB.out (bT yq.b hc.below), fun h0 => by obtain ⟨g', e, h1, h2⟩ := hc.here h0; exact ⟨g', e, Nat.le_trans (bT HB.out yq.b).size h1, h2⟩⟩
    clear hc
    go_wp2
    go_ret2
    rw [HN.out, HG.out]
    exact ⟨_, _, rfl, HC.out⟩
set_option maxRecDepth 100000 in
set_option maxHeartbeats 2000000 in
theorem overR_any (D : Bx) (p q : Option Addr) (c d : Nat) (fl : Int) (w : World) (hn : D.n ≤ 40) (hm : D.m ≤ 40) (hi : BxIn w w.heap.size D p q) :
    Calls Try.prog 23 #[.agg #[.slice p D.n c, .slice q D.m d], .int .i64 fl] w fun e w' => e = .returned (.tuple #[.int .i64 (ovV D fl), .int .i64 (gE D fl)]) ∧ Below w.heap.size w w' := by
  obtain ⟨w1, x, hw1, hb1, hz1, F0, F1⟩ := box_bx w p q D.n D.m c d
  have HB := Lib.hid hb1
  have HI : Hid (∀ x : Ext w1, BxIn x.v x.v.heap.size D p q) := fun x => (hi.bel hb1).bel x.b
  clear hb1 hz1 hi
  by_cases h : gE D fl = 0
  case neg =>
    have j0 := askF_err h
    have HN := Lib.hid (show ovV D fl = 0 from if_neg h)
    have HA := Lib.hid (show ∀ V : World, BxIn V V.heap.size D p q → Calls Try.prog 65 #[.agg #[.slice p D.n c, .slice q D.m d], .bool (within fl 0 40)] V fun e w' => e = .returned (.int .i64 (gE D fl)) ∧ Below V.heap.size V w' from fun V h => ask_is rfl hn hm h)
    clear h
    go_enter Try.func23, Try.ntmps23
    go_wp2
    refine quiet_e (by kernel_rfl) (by kernel_rfl) ?_
    repeat (first | go_big_quiet_step ((first | (go_at_call 58; exact quiet_s (isFlowR_any _ _)) | (go_at_call 65; exact quiet_x (HA.out _ (HI.out _))))) | quiet_step ((first | (go_at_call 58; exact quiet_s (isFlowR_any _ _)) | (go_at_call 65; exact quiet_x (HA.out _ (HI.out _))))))
    refine wpQuiet_nil ?_
    intro w6 hw6
    obtain ⟨yq, rfl⟩ := hw6
    go_wp2
    go_ret2
    exact ⟨by rw [HN.out]; rfl, bT HB.out yq.b⟩
  case pos =>
    have HN := Lib.hid (show ovV D fl = fl - sumN (gv D fl.toNat) D.n from if_pos h)
    have HG := Lib.hid h
    obtain ⟨hok, F, rfl, hF⟩ := gE_parts h
    have hw : within (F : Int) 0 40 = true := within_tt (by omega) (by omega)
    have HFL := Lib.hid (show ∀ V : World, Calls Try.prog 58 #[.int .i64 (F : Int)] V fun e w' => e = .returned (.bool true) ∧ V = w' from fun V => by
      have := isFlowR_any (F : Int) V
      rw [hw] at this
      exact this)
    have HCE := Lib.hid (chkE_ok.2 ⟨hok, rfl⟩)
    have HOK := Lib.hid hok
    have hn5 := (Bx.ok_parts hok).1
    have hsb := sumN_bd (gv_5' hok F) D.n hn5
    have ew : IntKind.i64.wrap ((F : Int) - sumN (gv D F) D.n) = (F : Int) - sumN (gv D F) D.n := IntWalk.i64_in _ (by omega)
    clear h hok hw hsb
    go_enter Try.func23, Try.ntmps23
    go_wp2
    refine quiet_e (by kernel_rfl) (by kernel_rfl) ?_
    repeat (first | go_big_quiet_step ((first | (go_at_call 58; exact quiet_s (HFL.out _)) | (go_at_call 65; exact quiet_x (ask_is HCE.out hn hm (HI.out _))))) | quiet_step ((first | (go_at_call 58; exact quiet_s (HFL.out _)) | (go_at_call 65; exact quiet_x (ask_is HCE.out hn hm (HI.out _))))))
    refine wpQuiet_nil ?_
    intro w6 hw6
    obtain ⟨yq, rfl⟩ := hw6
    go_wp2_with fail
    refine (gaugesOf_any D p q c d F _ HOK.out hF (HI.out _)).mono ?_
    rintro e w3 ⟨y, c', rfl, hc⟩
    have HB3 := Lib.hid (bT HB.out (bT yq.b hc.below)); have HNM := Lib.hid hc.num
    clear hc
    go_wp2_with fail
    refine (sumR_any D.n c' (gv D F) y w3 (by omega) (fun i hi => gv_5' HOK.out F i (by omega)) HNM.out).mono ?_
    rintro e w4 ⟨rfl, rfl⟩
    go_wp2
    go_ret2
    exact ⟨by rw [HN.out, HG.out]; rfl, HB3.out⟩
set_option maxRecDepth 100000 in
set_option maxHeartbeats 2000000 in
theorem turnR_any (D : Bx) (p q : Option Addr) (c d : Nat) (k : Int) (w : World) (hn : D.n ≤ 40) (hm : D.m ≤ 40) (hi : BxIn w w.heap.size D p q) :
    Calls Try.prog 25 #[.agg #[.slice p D.n c, .slice q D.m d], .int .i64 k] w fun e w' => e = .returned (.tuple #[.int .i64 (tvV D k), .int .i64 (tvE D k)]) ∧ Below w.heap.size w w' := by
  obtain ⟨w1, x, hw1, hb1, hz1, F0, F1⟩ := box_bx w p q D.n D.m c d
  have HB := Lib.hid hb1
  have HI : Hid (∀ x : Ext w1, BxIn x.v x.v.heap.size D p q) := fun x => (hi.bel hb1).bel x.b
  clear hb1 hz1 hi
  by_cases h : tE0 D k = 0
  case neg =>
    have j0 : (tE0 D k != 0) = true := by simpa using h
    have HN := Lib.hid (show tvV D k = 0 from if_neg h)
    have HN2 := Lib.hid (show tvE D k = tE0 D k from if_neg h)
    have HA := Lib.hid (show ∀ V : World, BxIn V V.heap.size D p q → Calls Try.prog 65 #[.agg #[.slice p D.n c, .slice q D.m d], .bool (within k 0 39)] V fun e w' => e = .returned (.int .i64 (tE0 D k)) ∧ Below V.heap.size V w' from fun V h => ask_is rfl hn hm h)
    clear h
    go_enter Try.func25, Try.ntmps25
    go_wp2
    refine quiet_e (by kernel_rfl) (by kernel_rfl) ?_
    repeat (first | go_big_quiet_step ((first | (go_at_call 71; exact quiet_s (isGaugeR_any _ _)) | (go_at_call 65; exact quiet_x (HA.out _ (HI.out _))))) | quiet_step ((first | (go_at_call 71; exact quiet_s (isGaugeR_any _ _)) | (go_at_call 65; exact quiet_x (HA.out _ (HI.out _))))))
    refine wpQuiet_nil ?_
    intro w6 hw6
    obtain ⟨yq, rfl⟩ := hw6
    go_wp2
    go_ret2
    exact ⟨by rw [HN.out, HN2.out]; rfl, bT HB.out yq.b⟩
  case pos =>
    have HN := Lib.hid (show tvV D k = onI (nx D (gv D k.toNat)) from if_pos h)
    have HN2 := Lib.hid (show tvE D k = noneE (nx D (gv D k.toNat)).isSome from if_pos h)
    obtain ⟨hok, K, rfl, hK⟩ := tE_parts h
    have hw : within (K : Int) 0 39 = true := within_tt (by omega) (by omega)
    have HFL := Lib.hid (show ∀ V : World, Calls Try.prog 71 #[.int .i64 (K : Int)] V fun e w' => e = .returned (.bool true) ∧ V = w' from fun V => by
      have := isGaugeR_any (K : Int) V
      rw [hw] at this
      exact this)
    have HCE := Lib.hid (chkE_ok.2 ⟨hok, rfl⟩)
    have HOK := Lib.hid hok
    clear h hok hw
    obtain ⟨o, ho⟩ : ∃ o, nx D (gv D K) = o := ⟨_, rfl⟩
    have HO := Lib.hid ho
    have HNX := Lib.hid (show ∀ (V : World) (y : Option Addr) (c' : Nat), BxIn V V.heap.size D p q → NumIn V V.heap.size D.n (gv D K) y → Calls Try.prog 72 #[.agg #[.slice p D.n c, .slice q D.m d], .slice y D.n c'] V fun e w' => e = .returned (.int .i64 (onJ o)) ∧ Below V.heap.size V w' from fun V y c' h h2 => by
      have := nextR_any D (gv D K) p q y c d c' V HOK.out h (gv_mo HOK.out K) h2
      rw [ho] at this
      exact this)
    clear ho
    cases o with
    | none =>
      have f1 : onJ none = -1 := rfl
      go_enter Try.func25, Try.ntmps25
      go_wp2
      refine quiet_e (by kernel_rfl) (by kernel_rfl) ?_
      repeat (first | go_big_quiet_step ((first | (go_at_call 71; exact quiet_s (HFL.out _)) | (go_at_call 65; exact quiet_x (ask_is HCE.out hn hm (HI.out _))))) | quiet_step ((first | (go_at_call 71; exact quiet_s (HFL.out _)) | (go_at_call 65; exact quiet_x (ask_is HCE.out hn hm (HI.out _))))))
      refine wpQuiet_nil ?_
      intro w6 hw6
      obtain ⟨yq, rfl⟩ := hw6
      go_wp2
      refine wp_region_lastE 5 (by kernel_rfl) rfl (fun yr => ?_)
      refine wpAnyG_take (i := 0) (v := ?_) (by kernel_rfl) rfl (by kernel_rfl) (by kernel_rfl) (by kernel_rfl) (fun _ _ _ h => h) (Or.inl ⟨by rfl, ?_⟩) ⟨_, rfl⟩ ?_
      rotate_left
      · rintro wS ⟨yS, rfl⟩
        go_simp
        try (with_reducible rfl)
      try simp only [Act.put, List.setIfInBounds_toArray, List.set_cons_zero, List.set_cons_succ]
      refine wpAnyG_take (i := 1) (v := ?_) (by kernel_rfl) rfl (by kernel_rfl) (by kernel_rfl) (by kernel_rfl) (fun _ _ _ h => h) (Or.inl ⟨by rfl, ?_⟩) ⟨_, rfl⟩ ?_
      rotate_left
      · rintro wS ⟨yS, rfl⟩
        go_simp
        try (with_reducible rfl)
      try simp only [Act.put, List.setIfInBounds_toArray, List.set_cons_zero, List.set_cons_succ]
      refine wpAnyG_take (i := 2) (v := ?_) (by kernel_rfl) rfl (by kernel_rfl) (by kernel_rfl) (by kernel_rfl) (fun _ _ _ h => h) (Or.inl ⟨by rfl, ?_⟩) ⟨_, rfl⟩ ?_
      rotate_left
      · rintro wS ⟨yS, rfl⟩
        go_simp
        try (with_reducible rfl)
      try simp only [Act.put, List.setIfInBounds_toArray, List.set_cons_zero, List.set_cons_succ]
      refine wpAnyG_one (i := 3) (by kernel_rfl) (by decide) (wpOp_plain rfl rfl ?_)
      go_simp
      go_at_call 66
      refine (gaugesOf_any D p q c d K _ HOK.out (by omega) (HI.out _)).mono ?_
      rintro e w' ⟨y, c', rfl, hc⟩
      have HNM := Lib.hid hc.num
      obtain ⟨ye, rfl⟩ : ∃ zz : Ext w1, w' = zz.v := ⟨⟨_, bT yr.b hc.below⟩, rfl⟩
      clear hc
      refine ⟨⟨_, rfl⟩, ?_⟩
      try simp only [Act.put, List.setIfInBounds_toArray, List.set_cons_zero, List.set_cons_succ]
      refine wpAnyG_one (i := 4) (by kernel_rfl) (by decide) (wpOp_plain rfl rfl ?_)
      go_simp
      go_at_call 72
      refine (quiet_x (HNX.out _ _ _ (HI.out _) HNM.out)).mono ?_
      rintro e w' ⟨rfl, yn, rfl⟩
      refine ⟨⟨_, rfl⟩, ?_⟩
      try simp only [Act.put, List.setIfInBounds_toArray, List.set_cons_zero, List.set_cons_succ]
      refine wpAnyG_done (by kernel_rfl) (by kernel_rfl) (wpOp_plain rfl rfl ?_)
      go_simp
      go_wp2
      go_ret2
      exact ⟨by rw [HN.out, HN2.out]; show _ = Ending.returned (.tuple #[.int .i64 (onI (nx D (gv D K))), .int .i64 (noneE (nx D (gv D K)).isSome)]); rw [HO.out]; rfl, bT HB.out yn.b⟩
    | some b =>
      have f1 : onJ (some b) = (b : Int) := rfl
      have f2 : decide ((0 : Int) ≤ (b : Int)) = true := by simp
      go_enter Try.func25, Try.ntmps25
      go_wp2
      refine quiet_e (by kernel_rfl) (by kernel_rfl) ?_
      repeat (first | go_big_quiet_step ((first | (go_at_call 71; exact quiet_s (HFL.out _)) | (go_at_call 65; exact quiet_x (ask_is HCE.out hn hm (HI.out _))))) | quiet_step ((first | (go_at_call 71; exact quiet_s (HFL.out _)) | (go_at_call 65; exact quiet_x (ask_is HCE.out hn hm (HI.out _))))))
      refine wpQuiet_nil ?_
      intro w6 hw6
      obtain ⟨yq, rfl⟩ := hw6
      go_wp2
      refine wp_region_lastE 5 (by kernel_rfl) rfl (fun yr => ?_)
      refine wpAnyG_take (i := 0) (v := ?_) (by kernel_rfl) rfl (by kernel_rfl) (by kernel_rfl) (by kernel_rfl) (fun _ _ _ h => h) (Or.inl ⟨by rfl, ?_⟩) ⟨_, rfl⟩ ?_
      rotate_left
      · rintro wS ⟨yS, rfl⟩
        go_simp
        try (with_reducible rfl)
      try simp only [Act.put, List.setIfInBounds_toArray, List.set_cons_zero, List.set_cons_succ]
      refine wpAnyG_take (i := 1) (v := ?_) (by kernel_rfl) rfl (by kernel_rfl) (by kernel_rfl) (by kernel_rfl) (fun _ _ _ h => h) (Or.inl ⟨by rfl, ?_⟩) ⟨_, rfl⟩ ?_
      rotate_left
      · rintro wS ⟨yS, rfl⟩
        go_simp
        try (with_reducible rfl)
      try simp only [Act.put, List.setIfInBounds_toArray, List.set_cons_zero, List.set_cons_succ]
      refine wpAnyG_take (i := 2) (v := ?_) (by kernel_rfl) rfl (by kernel_rfl) (by kernel_rfl) (by kernel_rfl) (fun _ _ _ h => h) (Or.inl ⟨by rfl, ?_⟩) ⟨_, rfl⟩ ?_
      rotate_left
      · rintro wS ⟨yS, rfl⟩
        go_simp
        try (with_reducible rfl)
      try simp only [Act.put, List.setIfInBounds_toArray, List.set_cons_zero, List.set_cons_succ]
      refine wpAnyG_one (i := 3) (by kernel_rfl) (by decide) (wpOp_plain rfl rfl ?_)
      go_simp
      go_at_call 66
      refine (gaugesOf_any D p q c d K _ HOK.out (by omega) (HI.out _)).mono ?_
      rintro e w' ⟨y, c', rfl, hc⟩
      have HNM := Lib.hid hc.num
      obtain ⟨ye, rfl⟩ : ∃ zz : Ext w1, w' = zz.v := ⟨⟨_, bT yr.b hc.below⟩, rfl⟩
      clear hc
      refine ⟨⟨_, rfl⟩, ?_⟩
      try simp only [Act.put, List.setIfInBounds_toArray, List.set_cons_zero, List.set_cons_succ]
      refine wpAnyG_one (i := 4) (by kernel_rfl) (by decide) (wpOp_plain rfl rfl ?_)
      go_simp
      go_at_call 72
      refine (quiet_x (HNX.out _ _ _ (HI.out _) HNM.out)).mono ?_
      rintro e w' ⟨rfl, yn, rfl⟩
      refine ⟨⟨_, rfl⟩, ?_⟩
      try simp only [Act.put, List.setIfInBounds_toArray, List.set_cons_zero, List.set_cons_succ]
      refine wpAnyG_done (by kernel_rfl) (by kernel_rfl) (wpOp_plain rfl rfl ?_)
      go_simp
      go_wp2
      go_ret2
      exact ⟨by rw [HN.out, HN2.out]; show _ = Ending.returned (.tuple #[.int .i64 (onI (nx D (gv D K))), .int .i64 (noneE (nx D (gv D K)).isSome)]); rw [HO.out]; rfl, bT HB.out yn.b⟩
set_option maxRecDepth 100000 in
set_option maxHeartbeats 2000000 in
/-- the same numbers are the same -/
theorem sameInts_any (l : Nat) (f : Nat → Int) (p q : Option Addr) (c d : Nat) (w : World) (hl : l ≤ 1000) (h1 : NumIn w w.heap.size l f p) (h2 : NumIn w w.heap.size l f q) :
    Calls Try.prog 26 #[.slice p l c, .slice q l d] w fun e w' => e = .returned (.bool true) ∧ Below w.heap.size w w' := by
  obtain ⟨x, hx⟩ := rebase w
  have H1 : Hid (∀ z : Ext w, NumIn z.v z.v.heap.size l f p) := fun z => h1.bel z.b
  have H2 : Hid (∀ z : Ext w, NumIn z.v z.v.heap.size l f q) := fun z => h2.bel z.b
  have d1 : ((l : Int) != (l : Int)) = false := by simp
  have HG : Hid (∀ w', (∃ z : Ext w, w' = z.v) → Below w.heap.size w w') := fun w' ⟨z, h⟩ => h ▸ z.b
  clear h1 h2
  go_enter Try.func26, Try.ntmps26
  go_wp2
  go_loopw [5] (fun i wr => ∃ k : Nat, i = .int .i64 k ∧ k ≤ l ∧ ∃ x : Ext w, wr = x.v) (fun i _ => l - (intOf i).toNat)
  case atStart => exact ⟨0, rfl, Nat.zero_le _, x, by first | exact hx | rfl⟩
  case round =>
    clear hx x
    obtain ⟨k, rfl, hk, y, rfl⟩ := hrel
    by_cases hlt : k < l
    · obtain ⟨b1, o1, rfl, _, _⟩ := H1.out y (by omega)
      obtain ⟨b2, o2, rfl, _, _⟩ := H2.out y (by omega)
      have C1 : ∀ z : Ext w, z.v.cell? ⟨b1, o1 + k, none⟩ = some (.int .i64 (f k)) := fun z => ((H1.out z).cell hlt).2
      have C2 : ∀ z : Ext w, z.v.cell? ⟨b2, o2 + k, none⟩ = some (.int .i64 (f k)) := fun z => ((H2.out z).cell hlt).2
      have j : decide ((k : Int) < (l : Int)) = true := by simp; omega
      have j2 : (k : Int) < (l : Int) := by omega
      go_wp2
      refine quiet_e (by kernel_rfl) (by kernel_rfl) ?_
      repeat (first | go_big_quiet_step (fail) | quiet_step (fail))
      refine wpQuiet_nil ?_
      intro w6 hw6
      obtain ⟨u2, rfl⟩ := hw6
      go_wp2
      go_roundw
      case rel => exact ⟨k + 1, by go_num, hlt, u2, rfl⟩
      case measure => first | (simp [intOf]; done) | (simp [intOf]; omega)
    · have j : decide ((k : Int) < (l : Int)) = false := by simp; omega
      go_wp2
      go_ret
      exact ⟨rfl, HG.out _ ⟨y, rfl⟩⟩
set_option maxRecDepth 100000 in
set_option maxHeartbeats 2000000 in
/-- the same boxes are the same -/
theorem same_any (D : Bx) (p q : Option Addr) (c d : Nat) (p' q' : Option Addr) (c' d' : Nat) (w : World) (hn : D.n ≤ 40) (hm : D.m ≤ 40) (hi : BxIn w w.heap.size D p q) (hi' : BxIn w w.heap.size D p' q') :
    Calls Try.prog 27 #[.agg #[.slice p D.n c, .slice q D.m d], .agg #[.slice p' D.n c', .slice q' D.m d']] w fun e w' => e = .returned (.bool true) ∧ Below w.heap.size w w' := by
  obtain ⟨w1, x1, hw1, hb1, hz1, F0, F1⟩ := box_bx w p q D.n D.m c d
  obtain ⟨w2, x2, hw2, hb2, hz2, G0, G1⟩ := box_bx x1.v p' q' D.n D.m c' d'
  have hb12 := bT x1.b hb2
  have HB := Lib.hid (bT hb1 hb12)
  have HI : Hid (∀ x : Ext w2, BxIn x.v x.v.heap.size D p q) := fun x => (hi.bel hb1).bel (bT hb12 x.b)
  have HI' : Hid (∀ x : Ext w2, BxIn x.v x.v.heap.size D p' q') := fun x => (hi'.bel hb1).bel (bT hb12 x.b)
  replace F0 : ∀ y : Ext w2, y.v.cell? ⟨w.heap.size, 0, none⟩ = some (.slice p D.n c) := fun y => F0 (y.up hb12)
  replace F1 : ∀ y : Ext w2, y.v.cell? ⟨w.heap.size, 1, none⟩ = some (.slice q D.m d) := fun y => F1 (y.up hb12)
  clear hb1 hz1 hi hi' hb2 hz2 hb12
  go_enter Try.func27, Try.ntmps27
  go_wp2_with fail
  refine (quiet_x (sameInts_any D.n D.sh p p' c c' _ (by omega) (HI.out _).s (HI'.out _).s)).mono ?_
  rintro e w' ⟨rfl, y, rfl⟩
  go_wp2_with fail
  refine (quiet_x (sameInts_any D.m D.mo q q' d d' _ (by omega) (HI.out _).o (HI'.out _).o)).mono ?_
  rintro e w' ⟨rfl, y2, rfl⟩
  go_wp2
  go_ret
  exact ⟨rfl, bT HB.out y2.b⟩
end Go.Proofs.Ythbicbmlbblflaa
