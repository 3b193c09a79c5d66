/- Boxes of mouths: sums, Over and Turn of the program. -/
import Derived.Test.YthbicbmlbblflaaC2

import Derived.Test.YthbicbmlbblflaaA6

set_option linter.unusedSimpArgs false

set_option linter.unusedVariables false

namespace Go.Proofs.Ythbicbmlbblflaa

open Go.RowKit

theorem sumN_bd {f : Nat → Int} {l : Nat} (hf : ∀ i, i < l → 0 ≤ f i ∧ f i ≤ 1000) : ∀ k, k ≤ l → 0 ≤ sumN f k ∧ sumN f k ≤ 1000 * k
  | 0, _ => by simp [sumN]
  | k + 1, hk => by
    have h1 := sumN_bd hf k (by omega)
    have h2 := hf k (by omega)
    show 0 ≤ sumN f k + f k ∧ sumN f k + f k ≤ _
    omega
theorem sumN_pad {f : Nat → Int} {n : Nat} (h : ∀ i, n ≤ i → f i = 0) : ∀ {m : Nat}, n ≤ m → sumN f m = sumN f n
  | 0, hm => by obtain rfl : n = 0 := by omega
                rfl
  | m + 1, hm => by
    rcases Nat.lt_or_ge m n with h1 | h1
    · obtain rfl : n = m + 1 := by omega
      rfl
    · show sumN f m + f m = _
      rw [sumN_pad h h1, h m h1]; omega
set_option maxRecDepth 100000 in
set_option maxHeartbeats 2000000 in
theorem sum_any (l c : Nat) (f : Nat → Int) (q : Option Addr) (w : World) (hl : l ≤ 1000) (hf : ∀ i, i < l → 0 ≤ f i ∧ f i ≤ 1000) (hi : NumIn w w.heap.size l f q) :
    Calls Try.prog 67 #[.slice q l c] w fun e w' => e = .returned (.int .i64 (sumN f l)) ∧ w = w' := by
  have HI := Lib.hid hi; have HF := Lib.hid (sumN_bd hf); have HF2 := Lib.hid hf; clear hi hf
  go_enter Try.func67, Try.ntmps67
  go_wp2
  go_loopw [8, 3] (fun i s wr => ∃ k : Nat, i = .int .i64 k ∧ s = .int .i64 (sumN f k) ∧ k ≤ l ∧ wr = w) (fun i _ _ => l - (intOf i).toNat)
  case atStart => exact ⟨0, rfl, rfl, Nat.zero_le _, rfl⟩
  case round =>
    obtain ⟨k, rfl, rfl, hk, rfl⟩ := hrel
    by_cases hlt : k < l
    · obtain ⟨b, o, rfl, _, hc⟩ := HI.out (by omega)
      have e0 := hc k hlt
      clear hc
      have ew : IntKind.i64.wrap (sumN f k + f k) = sumN f k + f k := IntWalk.i64_in _ (by have := HF.out k (by omega); have := HF2.out k hlt; omega)
      have hkm : (k : Int) < (l : Int) := by omega
      go_wp2
      go_roundw
      case rel => exact ⟨k + 1, by go_num, rfl, hlt, by first | rfl | trivial⟩
      case measure => first | (simp [intOf]; done) | (simp [intOf]; omega)
    · have HR := Lib.hid (show k = l by omega)
      have j : decide ((k : Int) < (l : Int)) = false := by simp; omega
      go_wp2
      go_ret
      exact ⟨by rw [HR.out]; rfl, rfl⟩
set_option maxRecDepth 100000 in
set_option maxHeartbeats 2000000 in
theorem sumR_any (l c : Nat) (f : Nat → Int) (q : Option Addr) (w : World) (hl : l ≤ 1000) (hf : ∀ i, i < l → 0 ≤ f i ∧ f i ≤ 1000) (hi : NumIn w w.heap.size l f q) :
    Calls Try.prog 49 #[.slice q l c] w fun e w' => e = .returned (.int .i64 (sumN f l)) ∧ w = w' := by
  have HI := Lib.hid hi; have HF := Lib.hid (sumN_bd hf); have HF2 := Lib.hid hf; clear hi hf
  go_enter Try.func49, Try.ntmps49
  go_wp2
  go_loopw [4, 3] (fun i s wr => ∃ k : Nat, i = .int .i64 k ∧ s = .int .i64 (sumN f k) ∧ k ≤ l ∧ wr = w) (fun i _ _ => l - (intOf i).toNat)
  case atStart => exact ⟨0, rfl, rfl, Nat.zero_le _, rfl⟩
  case round =>
    obtain ⟨k, rfl, rfl, hk, rfl⟩ := hrel
    by_cases hlt : k < l
    · obtain ⟨b, o, rfl, _, hc⟩ := HI.out (by omega)
      have e0 := hc k hlt
      clear hc
      have ew : IntKind.i64.wrap (sumN f k + f k) = sumN f k + f k := IntWalk.i64_in _ (by have := HF.out k (by omega); have := HF2.out k hlt; omega)
      have hkm : (k : Int) < (l : Int) := by omega
      go_wp2
      go_roundw
      case rel => exact ⟨k + 1, by go_num, rfl, hlt, by first | rfl | trivial⟩
      case measure => first | (simp [intOf]; done) | (simp [intOf]; omega)
    · have HR := Lib.hid (show k = l by omega)
      have j : decide ((k : Int) < (l : Int)) = false := by simp; omega
      go_wp2
      go_ret
      exact ⟨by rw [HR.out]; rfl, rfl⟩
theorem gv_5' {D : Bx} (hok : D.ok = true) (f : Nat) : ∀ i, i < 5 → 0 ≤ gv D f i ∧ gv D f i ≤ 1000 := fun i hi => by have := gv_5 hok f i hi; omega
theorem check_is {D : Bx} {p q : Option Addr} {c d : Nat} {is : Bool} {v : Int} (h : chkE D.ok is = v) {w : World} (hn : D.n ≤ 40) (hm : D.m ≤ 40) (hi : BxIn w w.heap.size D p q) :
    Calls Try.prog 60 #[.agg #[.slice p D.n c, .slice q D.m d], .bool is] w fun e w' => e = .returned (.int .i64 v) ∧ Below w.heap.size w w' := by subst h; exact check_any D p q c d is w hn hm hi
theorem DvAt.num {w : World} {b : Nat} {g : Nat → Int} (h : DvAt w b g) : NumIn w w.heap.size 5 g (some ⟨b, 0, none⟩) := fun _ => ⟨_, _, rfl, h.lt, fun k hk => by rw [Nat.zero_add]; exact h.c k hk⟩
set_option maxRecDepth 100000 in
set_option maxHeartbeats 4000000 in
theorem overP_ok (D : Bx) (p q : Option Addr) (c d F : Nat) (w : World) (hok : D.ok = true) (hF : F ≤ 40) (hi : BxIn w w.heap.size D p q) :
    Calls Try.prog 22 #[.agg #[.slice p D.n c, .slice q D.m d], .int .i64 (F : Int)] w fun e w' => e = .returned (.tuple #[.int .i64 ((F : Int) - sumN (gv D F) D.n), .int .i64 0]) ∧ Below w.heap.size w w' := by
  obtain ⟨w1, x, hw1, hb1, hz1, F0, F1⟩ := box_bx w p q D.n D.m c d
  have hn5 := (Bx.ok_parts hok).1
  have hm5 : D.m ≤ 5 := by have := (Bx.ok_parts hok).2.1; omega
  have HB := Lib.hid hb1
  have HI : Hid (∀ x : Ext w1, BxIn x.v x.v.heap.size D p q) := fun x => (hi.bel hb1).bel x.b
  have hw : within (F : Int) 0 40 = true := within_tt (by omega) (by omega)
  have HV := Lib.hid ((allW_one (F : Int) 0 40).trans hw)
  have HCE := Lib.hid (chkE_ok.2 ⟨hok, rfl⟩)
  have HOK := Lib.hid hok
  have HS := Lib.hid (sumN_pad (f := gv D F) (fun i hi => (gv_bd hok F i).2.2.1 hi) hn5)
  have hsb := sumN_bd (gv_5' hok F) 5 (Nat.le_refl _)
  have ew : IntKind.i64.wrap ((F : Int) - sumN (gv D F) 5) = (F : Int) - sumN (gv D F) 5 := IntWalk.i64_in _ (by omega)
  clear hb1 hz1 hi hw hok hsb
  go_enter Try.func22, Try.ntmps22
  go_wp2
  refine wp_region_lastE 5 (by kernel_rfl) rfl (fun yr => ?_)
  refine wpAnyG_take (i := 0) (v := ?_) (by kernel_rfl) rfl (by kernel_rfl) (by kernel_rfl) (by kernel_rfl) (fun _ _ _ h => h) (Or.inl ⟨by rfl, ?_⟩) ⟨_, rfl⟩ ?_
  rotate_left
  · rintro wS ⟨yS, rfl⟩
    go_simp
    try (with_reducible rfl)
  try simp only [Act.put, List.setIfInBounds_toArray, List.set_cons_zero, List.set_cons_succ]
  refine wpAnyG_take (i := 1) (v := ?_) (by kernel_rfl) rfl (by kernel_rfl) (by kernel_rfl) (by kernel_rfl) (fun _ _ _ h => h) (Or.inl ⟨by rfl, ?_⟩) ⟨_, rfl⟩ ?_
  rotate_left
  · rintro wS ⟨yS, rfl⟩
    go_simp
    try (with_reducible rfl)
  try simp only [Act.put, List.setIfInBounds_toArray, List.set_cons_zero, List.set_cons_succ]
  refine wpAnyG_one (i := 2) (by kernel_rfl) (by decide) (wpOp_plain rfl rfl ?_)
  go_simp
  obtain ⟨ya, hya, hna⟩ := one_flow (x := yr) (fl := (F : Int)) (t := 3)
  have HN := Lib.hid hna; clear hna
  rw [hya]; clear hya
  refine ⟨⟨_, rfl⟩, ?_⟩
  try simp only [Act.put, List.setIfInBounds_toArray, List.set_cons_zero, List.set_cons_succ]
  refine wpAnyG_one (i := 3) (by kernel_rfl) (by decide) (wpOp_plain rfl rfl ?_)
  go_simp
  go_at_call 62
  refine (areFlows_any 1 1 (fun _ => (F : Int)) _ _ (by omega) HN.out).mono ?_
  rintro e w' ⟨rfl, rfl⟩
  rw [HV.out]
  refine ⟨⟨_, rfl⟩, ?_⟩
  try simp only [Act.put, List.setIfInBounds_toArray, List.set_cons_zero, List.set_cons_succ]
  refine wpAnyG_one (i := 4) (by kernel_rfl) (by decide) (wpOp_plain rfl rfl ?_)
  go_simp
  go_at_call 60
  refine (quiet_x (check_is HCE.out (by omega) (by omega) (HI.out _))).mono ?_
  rintro e w' ⟨rfl, yc, rfl⟩
  refine ⟨⟨_, rfl⟩, ?_⟩
  try simp only [Act.put, List.setIfInBounds_toArray, List.set_cons_zero, List.set_cons_succ]
  refine wpAnyG_done (by kernel_rfl) (by kernel_rfl) (wpOp_plain rfl rfl ?_)
  go_simp
  go_wp2_with fail
  refine (quiet_x (divide_any D p q c d F _ HOK.out hF (HI.out _))).mono ?_
  rintro e w' ⟨rfl, yd, rfl⟩
  obtain ⟨w3, x3, hw3, hb3, hz3, G0, G1, G2, G3, G4, Gf⟩ := box_dv yd.v (fun _ => 0)
  have HD : Hid (DvAt x3.v yd.v.heap.size (fun _ => 0)) := ⟨by have := x3.b.size; omega, dv_cell (G0 x3) (G1 x3) (G2 x3) (G3 x3) (G4 x3), Gf x3⟩
  have HB3 := Lib.hid (bT (bT HB.out yd.b) (bT hb3 x3.b)); have HYS := Lib.hid (Nat.le_trans HB.out.size yd.b.size)
  clear hb3 hz3
  go_wp2_with fail
  obtain ⟨W5, hW5, hd5, hk5, hb5⟩ := set_five x3.v (gv D F) HD.out
  rw [hW5]
  refine (sum_any 5 5 (gv D F) _ W5 (by omega) (gv_5' HOK.out F) hd5.num).mono ?_
  rintro e w' ⟨rfl, rfl⟩
  have HB5 := Lib.hid (HB3.out.trans (hb5.mono HYS.out))
  clear hW5 hd5 hk5 hb5 G0 G1 G2 G3 G4 Gf
  go_wp2
  go_ret2
  exact ⟨by rw [← HS.out]; rfl, HB5.out⟩
set_option maxRecDepth 100000 in
set_option maxHeartbeats 4000000 in
theorem overP_err (D : Bx) (p q : Option Addr) (c d : Nat) (fl : Int) (w : World) (hn : D.n ≤ 40) (hm : D.m ≤ 40) (hi : BxIn w w.heap.size D p q) (he : chkE D.ok (within fl 0 40) ≠ 0) :
    Calls Try.prog 22 #[.agg #[.slice p D.n c, .slice q D.m d], .int .i64 fl] w fun e w' => e = .returned (.tuple #[.int .i64 0, .int .i64 (chkE D.ok (within fl 0 40))]) ∧ Below w.heap.size w w' := by
  obtain ⟨w1, x, hw1, hb1, hz1, F0, F1⟩ := box_bx w p q D.n D.m c d
  have HB := Lib.hid hb1
  have HI : Hid (∀ x : Ext w1, BxIn x.v x.v.heap.size D p q) := fun x => (hi.bel hb1).bel x.b
  have HV := Lib.hid (allW_one fl 0 40)
  have j0 : (chkE D.ok (within fl 0 40) != 0) = true := by simpa using he
  clear hb1 hz1 hi he
  go_enter Try.func22, Try.ntmps22
  go_wp2
  refine wp_region_lastE 5 (by kernel_rfl) rfl (fun yr => ?_)
  refine wpAnyG_take (i := 0) (v := ?_) (by kernel_rfl) rfl (by kernel_rfl) (by kernel_rfl) (by kernel_rfl) (fun _ _ _ h => h) (Or.inl ⟨by rfl, ?_⟩) ⟨_, rfl⟩ ?_
  rotate_left
  · rintro wS ⟨yS, rfl⟩
    go_simp
    try (with_reducible rfl)
  try simp only [Act.put, List.setIfInBounds_toArray, List.set_cons_zero, List.set_cons_succ]
  refine wpAnyG_take (i := 1) (v := ?_) (by kernel_rfl) rfl (by kernel_rfl) (by kernel_rfl) (by kernel_rfl) (fun _ _ _ h => h) (Or.inl ⟨by rfl, ?_⟩) ⟨_, rfl⟩ ?_
  rotate_left
  · rintro wS ⟨yS, rfl⟩
    go_simp
    try (with_reducible rfl)
  try simp only [Act.put, List.setIfInBounds_toArray, List.set_cons_zero, List.set_cons_succ]
  refine wpAnyG_one (i := 2) (by kernel_rfl) (by decide) (wpOp_plain rfl rfl ?_)
  go_simp
  obtain ⟨ya, hya, hna⟩ := one_flow (x := yr) (fl := fl) (t := 3)
  have HN := Lib.hid hna; clear hna
  rw [hya]; clear hya
  refine ⟨⟨_, rfl⟩, ?_⟩
  try simp only [Act.put, List.setIfInBounds_toArray, List.set_cons_zero, List.set_cons_succ]
  refine wpAnyG_one (i := 3) (by kernel_rfl) (by decide) (wpOp_plain rfl rfl ?_)
  go_simp
  go_at_call 62
  refine (areFlows_any 1 1 (fun _ => fl) _ _ (by omega) HN.out).mono ?_
  rintro e w' ⟨rfl, rfl⟩
  rw [HV.out]
  refine ⟨⟨_, rfl⟩, ?_⟩
  try simp only [Act.put, List.setIfInBounds_toArray, List.set_cons_zero, List.set_cons_succ]
  refine wpAnyG_one (i := 4) (by kernel_rfl) (by decide) (wpOp_plain rfl rfl ?_)
  go_simp
  go_at_call 60
  refine (quiet_x (check_any D p q c d (within fl 0 40) _ hn hm (HI.out _))).mono ?_
  rintro e w' ⟨rfl, yc, rfl⟩
  refine ⟨⟨_, rfl⟩, ?_⟩
  try simp only [Act.put, List.setIfInBounds_toArray, List.set_cons_zero, List.set_cons_succ]
  refine wpAnyG_done (by kernel_rfl) (by kernel_rfl) (wpOp_plain rfl rfl ?_)
  go_simp
  go_wp2
  go_ret2
  exact ⟨rfl, bT HB.out yc.b⟩
theorem orNone_tt (v : Int) (w : World) : Calls Try.prog 69 #[.int .i64 v, .bool true] w fun e w' => e = .returned (.tuple #[.int .i64 v, .int .i64 0]) ∧ w = w' := by
  go_enter Try.func69, Try.ntmps69
  go_wp2
  go_ret2
  exact ⟨rfl, rfl⟩
theorem orNone_ff (v : Int) (w : World) : Calls Try.prog 69 #[.int .i64 v, .bool false] w fun e w' => e = .returned (.tuple #[.int .i64 0, .int .i64 3]) ∧ w = w' := by
  go_enter Try.func69, Try.ntmps69
  go_wp2
  go_ret2
  exact ⟨rfl, rfl⟩
def noneE (b : Bool) : Int := if b then 0 else 3
def orV (b : Bool) (v : Int) : Int := if b then v else 0
theorem orNone_any (v : Int) (is : Bool) (w : World) : Calls Try.prog 69 #[.int .i64 v, .bool is] w fun e w' => e = .returned (.tuple #[.int .i64 (orV is v), .int .i64 (noneE is)]) ∧ w = w' := by
  cases is
  · exact orNone_ff v w
  · exact orNone_tt v w
theorem turnMC {D : Bx} {p q : Option Addr} {c d k : Nat} {w : World} (hok : D.ok = true) (hk : k < 40) (hi : BxIn w w.heap.size D p q) :
    Calls Try.prog 70 #[.agg #[.slice p D.n c, .slice q D.m d, .int .i64 ((k : Int) + 1)]] w fun e w' => e = .returned (.tuple #[.int .i64 (onI (nx D (gv D k))), .bool (nx D (gv D k)).isSome]) ∧ Below w.heap.size w w' :=
  callsIn_wide.1 (turnM_any D p q c d k w hok hk hi)
theorem onI_if (o : Option Nat) : orV o.isSome (onI o) = onI o := by cases o <;> rfl
theorem orNone_on (o : Option Nat) (w : World) : Calls Try.prog 69 #[.int .i64 (onI o), .bool o.isSome] w fun e w' => e = .returned (.tuple #[.int .i64 (onI o), .int .i64 (noneE o.isSome)]) ∧ w = w' := by
  have := orNone_any (onI o) o.isSome w
  rw [onI_if] at this
  exact this
set_option maxRecDepth 100000 in
set_option maxHeartbeats 4000000 in
theorem turnP_ok (D : Bx) (p q : Option Addr) (c d k : Nat) (w : World) (hok : D.ok = true) (hk : k < 40) (hi : BxIn w w.heap.size D p q) :
    Calls Try.prog 24 #[.agg #[.slice p D.n c, .slice q D.m d], .int .i64 (k : Int)] w fun e w' => e = .returned (.tuple #[.int .i64 (onI (nx D (gv D k))), .int .i64 (noneE (nx D (gv D k)).isSome)]) ∧ Below w.heap.size w w' := by
  obtain ⟨w1, x, hw1, hb1, hz1, F0, F1⟩ := box_bx w p q D.n D.m c d
  have hn5 := (Bx.ok_parts hok).1
  have hm5 : D.m ≤ 5 := by have := (Bx.ok_parts hok).2.1; omega
  have HB := Lib.hid hb1
  have HI : Hid (∀ x : Ext w1, BxIn x.v x.v.heap.size D p q) := fun x => (hi.bel hb1).bel x.b
  have hw : within (k : Int) 0 39 = true := within_tt (by omega) (by omega)
  have HG := Lib.hid (show ∀ V : World, Calls Try.prog 68 #[.int .i64 (k : Int)] V fun e w' => e = .returned (.bool true) ∧ Below V.heap.size V w' from fun V => by
    have := isGauge_any (k : Int) V
    rw [hw] at this
    exact this)
  have HCE := Lib.hid (chkE_ok.2 ⟨hok, rfl⟩)
  have HOK := Lib.hid hok
  have ew : IntKind.i64.wrap ((k : Int) + 1) = (k : Int) + 1 := IntWalk.i64_in _ (by omega)
  clear hb1 hz1 hi hw hok
  go_enter Try.func24, Try.ntmps24
  go_wp2
  refine quiet_e (by kernel_rfl) (by kernel_rfl) ?_
  repeat (first | go_big_quiet_step ((first | (go_at_call 68; exact quiet_x (HG.out _)) | (go_at_call 60; exact quiet_x (check_is HCE.out (by omega) (by omega) (HI.out _))))) | quiet_step ((first | (go_at_call 68; exact quiet_x (HG.out _)) | (go_at_call 60; exact quiet_x (check_is HCE.out (by omega) (by omega) (HI.out _))))))
  refine wpQuiet_nil ?_
  intro w6 hw6
  obtain ⟨yq, rfl⟩ := hw6
  go_wp2_with fail
  refine (quiet_x (turnMC HOK.out hk (HI.out _))).mono ?_
  rintro e w' ⟨rfl, y, rfl⟩
  go_wp2_with fail
  refine (orNone_on _ _).mono ?_
  rintro e w' ⟨rfl, rfl⟩
  go_wp2
  go_ret2
  exact ⟨rfl, bT HB.out y.b⟩
set_option maxRecDepth 100000 in
set_option maxHeartbeats 4000000 in
theorem turnP_err (D : Bx) (p q : Option Addr) (c d : Nat) (k : Int) (w : World) (hn : D.n ≤ 40) (hm : D.m ≤ 40) (hi : BxIn w w.heap.size D p q) (he : chkE D.ok (within k 0 39) ≠ 0) :
    Calls Try.prog 24 #[.agg #[.slice p D.n c, .slice q D.m d], .int .i64 k] w fun e w' => e = .returned (.tuple #[.int .i64 0, .int .i64 (chkE D.ok (within k 0 39))]) ∧ Below w.heap.size w w' := by
  obtain ⟨w1, x, hw1, hb1, hz1, F0, F1⟩ := box_bx w p q D.n D.m c d
  have HB := Lib.hid hb1
  have HI : Hid (∀ x : Ext w1, BxIn x.v x.v.heap.size D p q) := fun x => (hi.bel hb1).bel x.b
  have j0 : (chkE D.ok (within k 0 39) != 0) = true := by simpa using he
  clear hb1 hz1 hi he
  go_enter Try.func24, Try.ntmps24
  go_wp2
  refine quiet_e (by kernel_rfl) (by kernel_rfl) ?_
  repeat (first | go_big_quiet_step ((first | (go_at_call 68; exact quiet_x (isGauge_any _ _)) | (go_at_call 60; exact quiet_x (check_any D p q c d _ _ hn hm (HI.out _))))) | quiet_step ((first | (go_at_call 68; exact quiet_x (isGauge_any _ _)) | (go_at_call 60; exact quiet_x (check_any D p q c d _ _ hn hm (HI.out _))))))
  refine wpQuiet_nil ?_
  intro w6 hw6
  obtain ⟨yq, rfl⟩ := hw6
  go_wp2
  go_ret2
  exact ⟨rfl, bT HB.out yq.b⟩
end Go.Proofs.Ythbicbmlbblflaa
