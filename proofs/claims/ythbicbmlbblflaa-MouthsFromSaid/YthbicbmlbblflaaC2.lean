/- Boxes of mouths: Gauges of the program. -/
import Derived.Test.YthbicbmlbblflaaC1

set_option linter.unusedSimpArgs false

set_option linter.unusedVariables false

namespace Go.Proofs.Ythbicbmlbblflaa

open Go.RowKit

/-- the gauges as a value -/
def gvA (g : Nat → Int) : Value := .agg #[.int .i64 (g 0), .int .i64 (g 1), .int .i64 (g 2), .int .i64 (g 3), .int .i64 (g 4)]
theorem divideMC {D : Bx} {p q : Option Addr} {c d F : Nat} {w : World} (hok : D.ok = true) (hF : F ≤ 40) (hi : BxIn w w.heap.size D p q) :
    Calls Try.prog 84 #[.agg #[.slice p D.n c, .slice q D.m d, .int .i64 (F : Int)]] w fun e w' => e = .returned (.agg #[.int .i64 (gv D F 0), .int .i64 (gv D F 1), .int .i64 (gv D F 2), .int .i64 (gv D F 3), .int .i64 (gv D F 4)]) ∧ Below w.heap.size w w' :=
  callsIn_wide.1 (divideM_any D p q c d F w hok hF hi)
set_option maxRecDepth 100000 in
set_option maxHeartbeats 2000000 in
theorem divide_any (D : Bx) (p q : Option Addr) (c d F : Nat) (w : World) (hok : D.ok = true) (hF : F ≤ 40) (hi : BxIn w w.heap.size D p q) :
    Calls Try.prog 63 #[.agg #[.slice p D.n c, .slice q D.m d], .int .i64 (F : Int)] w fun e w' => e = .returned (.agg #[.int .i64 (gv D F 0), .int .i64 (gv D F 1), .int .i64 (gv D F 2), .int .i64 (gv D F 3), .int .i64 (gv D F 4)]) ∧ Below w.heap.size w w' := by
  obtain ⟨w1, x1, hw1, hb1, hz1, F0, F1⟩ := box_bx w p q D.n D.m c d
  obtain ⟨w2, x2, hw2, hb2, hz2, G0, G1, G2, G3, G4, Gf⟩ := box_dv x1.v (fun _ => 0)
  have hb12 := bT x1.b hb2
  have HB := Lib.hid (bT hb1 hb12)
  have HI : Hid (∀ x : Ext w2, BxIn x.v x.v.heap.size D p q) := fun x => (hi.bel hb1).bel (bT hb12 x.b)
  replace F0 : ∀ y : Ext w2, y.v.cell? ⟨w.heap.size, 0, none⟩ = some (.slice p D.n c) := fun y => F0 (y.up hb12)
  replace F1 : ∀ y : Ext w2, y.v.cell? ⟨w.heap.size, 1, none⟩ = some (.slice q D.m d) := fun y => F1 (y.up hb12)
  have HD : Hid (∀ y : Ext w2, DvAt y.v x1.v.heap.size (fun _ => 0)) := fun y => ⟨by have := y.b.size; omega, dv_cell (G0 y) (G1 y) (G2 y) (G3 y) (G4 y), Gf y⟩
  have HZ := Lib.hid (Nat.le_trans hb1.size x1.b.size)
  have HOK := Lib.hid hok
  clear hb1 hz1 hi hb2 hz2 hb12 hok
  go_enter Try.func63, Try.ntmps63
  go_wp2_with fail
  refine (quiet_x (divideMC HOK.out hF (HI.out _))).mono ?_
  rintro e w' ⟨rfl, y, rfl⟩
  go_wp2
  obtain ⟨W5, hW5, hd5, hk5, hb5⟩ := set_five y.v (gv D F) (HD.out y)
  rw [hW5]
  have k0 := hd5.c 0 (by omega)
  have k1 := hd5.c 1 (by omega)
  have k2 := hd5.c 2 (by omega)
  have k3 := hd5.c 3 (by omega)
  have k4 := hd5.c 4 (by omega)
  refine bodyPost_ret (v := .agg #[.int .i64 (gv D F 0), .int .i64 (gv D F 1), .int .i64 (gv D F 2), .int .i64 (gv D F 3), .int .i64 (gv D F 4)]) (by simp [results, Try.f63, go_sem, k0, k1, k2, k3, k4]) rfl ⟨rfl, ?_⟩
  exact (bT HB.out y.b).trans (hb5.mono HZ.out)
theorem gE_cases (D : Bx) (fl : Int) : chkE D.ok (within fl 0 40) = 0 ∨ chkE D.ok (within fl 0 40) = 1 ∨ chkE D.ok (within fl 0 40) = 70 := by
  cases D.ok <;> cases within fl 0 40 <;> simp [chkE]
theorem chkE_ok {ok is : Bool} : chkE ok is = 0 ↔ ok = true ∧ is = true := by cases ok <;> cases is <;> simp [chkE]
theorem one_flow {w : World} {x : Ext w} {fl : Int} {t : TypeId} : ∃ y : Ext w, x.v.alloc (Obj.cells #[.int .i64 fl] t) = y.v ∧ NumIn y.v y.v.heap.size 1 (fun _ => fl) (some ⟨x.v.heap.size, 0, none⟩) :=
  ⟨⟨_, bA x.b _⟩, rfl, one_num rfl⟩
set_option maxRecDepth 100000 in
set_option maxHeartbeats 4000000 in
theorem gaugesP_err (D : Bx) (p q : Option Addr) (c d : Nat) (fl : Int) (w : World) (hn : D.n ≤ 40) (hm : D.m ≤ 40) (hi : BxIn w w.heap.size D p q) (he : chkE D.ok (within fl 0 40) ≠ 0) :
    Calls Try.prog 20 #[.agg #[.slice p D.n c, .slice q D.m d], .int .i64 fl] w fun e w' => e = .returned (.tuple #[.slice none 0 0, .int .i64 (chkE D.ok (within fl 0 40))]) ∧ Below w.heap.size w w' := by
  obtain ⟨w1, x, hw1, hb1, hz1, F0, F1⟩ := box_bx w p q D.n D.m c d
  have HB := Lib.hid hb1
  have HI : Hid (∀ x : Ext w1, BxIn x.v x.v.heap.size D p q) := fun x => (hi.bel hb1).bel x.b
  have HV := Lib.hid (allW_one fl 0 40)
  have j0 : (chkE D.ok (within fl 0 40) != 0) = true := by simpa using he
  clear hb1 hz1 hi he
  go_enter Try.func20, Try.ntmps20
  go_wp2
  refine wp_region_lastE 5 (by kernel_rfl) rfl (fun yr => ?_)
  refine wpAnyG_take (i := 0) (v := ?_) (by kernel_rfl) rfl (by kernel_rfl) (by kernel_rfl) (by kernel_rfl) (fun _ _ _ h => h) (Or.inl ⟨by rfl, ?_⟩) ⟨_, rfl⟩ ?_
  rotate_left
  · rintro wS ⟨yS, rfl⟩
    go_simp
    try (with_reducible rfl)
  try simp only [Act.put, List.setIfInBounds_toArray, List.set_cons_zero, List.set_cons_succ]
  refine wpAnyG_take (i := 1) (v := ?_) (by kernel_rfl) rfl (by kernel_rfl) (by kernel_rfl) (by kernel_rfl) (fun _ _ _ h => h) (Or.inl ⟨by rfl, ?_⟩) ⟨_, rfl⟩ ?_
  rotate_left
  · rintro wS ⟨yS, rfl⟩
    go_simp
    try (with_reducible rfl)
  try simp only [Act.put, List.setIfInBounds_toArray, List.set_cons_zero, List.set_cons_succ]
  refine wpAnyG_one (i := 2) (by kernel_rfl) (by decide) (wpOp_plain rfl rfl ?_)
  go_simp
  obtain ⟨ya, hya, hna⟩ := one_flow (x := yr) (fl := fl) (t := 3)
  have HN := Lib.hid hna; clear hna
  rw [hya]; clear hya
  refine ⟨⟨_, rfl⟩, ?_⟩
  try simp only [Act.put, List.setIfInBounds_toArray, List.set_cons_zero, List.set_cons_succ]
  refine wpAnyG_one (i := 3) (by kernel_rfl) (by decide) (wpOp_plain rfl rfl ?_)
  go_simp
  go_at_call 62
  refine (areFlows_any 1 1 (fun _ => fl) _ _ (by omega) HN.out).mono ?_
  rintro e w' ⟨rfl, rfl⟩
  rw [HV.out]
  refine ⟨⟨_, rfl⟩, ?_⟩
  try simp only [Act.put, List.setIfInBounds_toArray, List.set_cons_zero, List.set_cons_succ]
  refine wpAnyG_one (i := 4) (by kernel_rfl) (by decide) (wpOp_plain rfl rfl ?_)
  go_simp
  go_at_call 60
  refine (quiet_x (check_any D p q c d (within fl 0 40) _ hn hm (HI.out _))).mono ?_
  rintro e w' ⟨rfl, yc, rfl⟩
  refine ⟨⟨_, rfl⟩, ?_⟩
  try simp only [Act.put, List.setIfInBounds_toArray, List.set_cons_zero, List.set_cons_succ]
  refine wpAnyG_done (by kernel_rfl) (by kernel_rfl) (wpOp_plain rfl rfl ?_)
  go_simp
  go_wp2
  go_ret2
  exact ⟨rfl, bT HB.out yc.b⟩
set_option maxRecDepth 100000 in
set_option maxHeartbeats 4000000 in
theorem gaugesP_ok (D : Bx) (p q : Option Addr) (c d F : Nat) (w : World) (hok : D.ok = true) (hF : F ≤ 40) (hi : BxIn w w.heap.size D p q) :
    Calls Try.prog 20 #[.agg #[.slice p D.n c, .slice q D.m d], .int .i64 (F : Int)] w fun e w' => ∃ y c', e = .returned (.tuple #[.slice y D.n c', .int .i64 0]) ∧ New w w' D.n (gv D F) y := by
  obtain ⟨w1, x, hw1, hb1, hz1, F0, F1⟩ := box_bx w p q D.n D.m c d
  have hn5 := (Bx.ok_parts hok).1
  have hm5 : D.m ≤ 5 := by have := (Bx.ok_parts hok).2.1; omega
  have HB := Lib.hid hb1
  have HI : Hid (∀ x : Ext w1, BxIn x.v x.v.heap.size D p q) := fun x => (hi.bel hb1).bel x.b
  have hw : within (F : Int) 0 40 = true := within_tt (by omega) (by omega)
  have HV := Lib.hid ((allW_one (F : Int) 0 40).trans hw)
  have HCK := Lib.hid (show ∀ V : World, BxIn V V.heap.size D p q → Calls Try.prog 60 #[.agg #[.slice p D.n c, .slice q D.m d], .bool true] V fun e w' => e = .returned (.int .i64 0) ∧ Below V.heap.size V w' from fun V h => by
    have := check_any D p q c d true V (by omega) (by omega) h
    rw [hok] at this
    exact this)
  have HOK := Lib.hid hok
  clear hb1 hz1 hi hw hok
  go_enter Try.func20, Try.ntmps20
  go_wp2
  refine wp_region_lastE 5 (by kernel_rfl) rfl (fun yr => ?_)
  refine wpAnyG_take (i := 0) (v := ?_) (by kernel_rfl) rfl (by kernel_rfl) (by kernel_rfl) (by kernel_rfl) (fun _ _ _ h => h) (Or.inl ⟨by rfl, ?_⟩) ⟨_, rfl⟩ ?_
  rotate_left
  · rintro wS ⟨yS, rfl⟩
    go_simp
    try (with_reducible rfl)
  try simp only [Act.put, List.setIfInBounds_toArray, List.set_cons_zero, List.set_cons_succ]
  refine wpAnyG_take (i := 1) (v := ?_) (by kernel_rfl) rfl (by kernel_rfl) (by kernel_rfl) (by kernel_rfl) (fun _ _ _ h => h) (Or.inl ⟨by rfl, ?_⟩) ⟨_, rfl⟩ ?_
  rotate_left
  · rintro wS ⟨yS, rfl⟩
    go_simp
    try (with_reducible rfl)
  try simp only [Act.put, List.setIfInBounds_toArray, List.set_cons_zero, List.set_cons_succ]
  refine wpAnyG_one (i := 2) (by kernel_rfl) (by decide) (wpOp_plain rfl rfl ?_)
  go_simp
  obtain ⟨ya, hya, hna⟩ := one_flow (x := yr) (fl := (F : Int)) (t := 3)
  have HN := Lib.hid hna; clear hna
  rw [hya]; clear hya
  refine ⟨⟨_, rfl⟩, ?_⟩
  try simp only [Act.put, List.setIfInBounds_toArray, List.set_cons_zero, List.set_cons_succ]
  refine wpAnyG_one (i := 3) (by kernel_rfl) (by decide) (wpOp_plain rfl rfl ?_)
  go_simp
  go_at_call 62
  refine (areFlows_any 1 1 (fun _ => (F : Int)) _ _ (by omega) HN.out).mono ?_
  rintro e w' ⟨rfl, rfl⟩
  rw [HV.out]
  refine ⟨⟨_, rfl⟩, ?_⟩
  try simp only [Act.put, List.setIfInBounds_toArray, List.set_cons_zero, List.set_cons_succ]
  refine wpAnyG_one (i := 4) (by kernel_rfl) (by decide) (wpOp_plain rfl rfl ?_)
  go_simp
  go_at_call 60
  refine (quiet_x (HCK.out _ (HI.out _))).mono ?_
  rintro e w' ⟨rfl, yc, rfl⟩
  refine ⟨⟨_, rfl⟩, ?_⟩
  try simp only [Act.put, List.setIfInBounds_toArray, List.set_cons_zero, List.set_cons_succ]
  refine wpAnyG_done (by kernel_rfl) (by kernel_rfl) (wpOp_plain rfl rfl ?_)
  go_simp
  go_wp2
  refine wp_region_lastE 8 (by kernel_rfl) rfl (fun ys => ?_)
  refine wpAnyG_take (i := 0) (v := ?_) (by kernel_rfl) rfl (by kernel_rfl) (by kernel_rfl) (by kernel_rfl) (fun _ _ _ h => h) (Or.inl ⟨by rfl, ?_⟩) ⟨_, rfl⟩ ?_
  rotate_left
  · rintro wS ⟨yS, rfl⟩
    go_simp
    try (with_reducible rfl)
  try simp only [Act.put, List.setIfInBounds_toArray, List.set_cons_zero, List.set_cons_succ]
  refine wpAnyG_take (i := 1) (v := ?_) (by kernel_rfl) rfl (by kernel_rfl) (by kernel_rfl) (by kernel_rfl) (fun _ _ _ h => h) (Or.inl ⟨by rfl, ?_⟩) ⟨_, rfl⟩ ?_
  rotate_left
  · rintro wS ⟨yS, rfl⟩
    go_simp
    try (with_reducible rfl)
  try simp only [Act.put, List.setIfInBounds_toArray, List.set_cons_zero, List.set_cons_succ]
  refine wpAnyG_take (i := 3) (v := ?_) (by kernel_rfl) rfl (by kernel_rfl) (by kernel_rfl) (by kernel_rfl) (fun _ _ _ h => h) (Or.inl ⟨by rfl, ?_⟩) ⟨_, rfl⟩ ?_
  rotate_left
  · rintro wS ⟨yS, rfl⟩
    go_simp
    try (with_reducible rfl)
  try simp only [Act.put, List.setIfInBounds_toArray, List.set_cons_zero, List.set_cons_succ]
  refine wpAnyG_take (i := 4) (v := ?_) (by kernel_rfl) rfl (by kernel_rfl) (by kernel_rfl) (by kernel_rfl) (fun _ _ _ h => h) (Or.inl ⟨by rfl, ?_⟩) ⟨_, rfl⟩ ?_
  rotate_left
  · rintro wS ⟨yS, rfl⟩
    go_simp
    try (with_reducible rfl)
  try simp only [Act.put, List.setIfInBounds_toArray, List.set_cons_zero, List.set_cons_succ]
  refine wpAnyG_take (i := 5) (v := ?_) (by kernel_rfl) rfl (by kernel_rfl) (by kernel_rfl) (by kernel_rfl) (fun _ _ _ h => h) (Or.inl ⟨by rfl, ?_⟩) ⟨_, rfl⟩ ?_
  rotate_left
  · rintro wS ⟨yS, rfl⟩
    go_simp
    try (with_reducible rfl)
  try simp only [Act.put, List.setIfInBounds_toArray, List.set_cons_zero, List.set_cons_succ]
  refine wpAnyG_one (i := 2) (by kernel_rfl) (by decide) (wpOp_plain rfl rfl ?_)
  go_simp
  go_at_call 63
  refine (quiet_x (divide_any D p q c d F _ HOK.out hF (HI.out _))).mono ?_
  rintro e w' ⟨rfl, yd, rfl⟩
  refine ⟨⟨_, rfl⟩, ?_⟩
  try simp only [Act.put, List.setIfInBounds_toArray, List.set_cons_zero, List.set_cons_succ]
  refine wpAnyG_one (i := 6) (by kernel_rfl) (by decide) (wpOp_plain rfl rfl ?_)
  go_simp
  go_at_call 64
  refine (list_any (gv D F) D.n _ hn5).mono ?_
  rintro e w' ⟨y, c', rfl, hc⟩
  have HC : Hid (New w w' D.n (gv D F) y) := ⟨bT HB.out (bT yd.b hc.below), fun h0 => by obtain ⟨g', e, h1, h2⟩ := hc.here h0; exact ⟨g', e, Nat.le_trans (bT HB.out yd.b).size h1, h2⟩⟩
  obtain ⟨ye, rfl⟩ : ∃ zz : Ext w1, w' = zz.v := ⟨⟨_, bT yd.b hc.below⟩, rfl⟩
  clear hc
  refine ⟨⟨_, rfl⟩, ?_⟩
  try simp only [Act.put, List.setIfInBounds_toArray, List.set_cons_zero, List.set_cons_succ]
  refine wpAnyG_take (i := 7) (v := ?_) (by kernel_rfl) rfl (by kernel_rfl) (by kernel_rfl) (by kernel_rfl) (fun _ _ _ h => h) (Or.inl ⟨by rfl, ?_⟩) ⟨_, rfl⟩ ?_
  rotate_left
  · rintro wS ⟨yS, rfl⟩
    go_simp
    try (with_reducible rfl)
  try simp only [Act.put, List.setIfInBounds_toArray, List.set_cons_zero, List.set_cons_succ]
  refine wpAnyG_done (by kernel_rfl) (by kernel_rfl) (wpOp_plain rfl rfl ?_)
  go_simp
  go_wp2
  go_ret2
  exact ⟨_, _, rfl, HC.out⟩
end Go.Proofs.Ythbicbmlbblflaa
