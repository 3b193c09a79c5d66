/- Rosters of hours: Lack and Bound of the program. -/
import Derived.Test.YtegkgfiaegpihaaF11

set_option linter.unusedSimpArgs false

set_option linter.unusedVariables false

namespace Go.Proofs.Ytegkgfiaegpihaa

open Go.RowKit

set_option maxRecDepth 100000 in
set_option maxHeartbeats 2000000 in
theorem orNone_spn (a b : Int) (is : Bool) (h0 : is = false → a = 0 ∧ b = 0) (w : World) : Calls Try.prog 68 #[.agg #[.int .i64 a, .int .i64 b], .bool is] w fun e w' => e = .returned (.tuple #[.agg #[.int .i64 a, .int .i64 b], .int .i64 (if is then 0 else 3)]) ∧ Below w.heap.size w w' := by
  obtain ⟨w1, x1, hw1, hb1, hz1, F0, F1, _⟩ := box_span w a b
  obtain ⟨x, hx, hsp, _⟩ := alloc_spn x1
  obtain ⟨sb, hsb⟩ : ∃ n, x1.v.heap.size = n := ⟨_, rfl⟩
  have HB := Lib.hid hb1
  have HSB : Hid (w1.heap.size ≤ sb) := by rw [← hsb]; exact x1.b.size
  rw [hsb] at hsp
  have q0 := hsp.c0; have q1 := hsp.c1; have qf := hsp.fz
  have HSP := Lib.hid hsp
  clear hb1 hz1 hsp
  cases is with
  | false =>
    obtain ⟨rfl, rfl⟩ := h0 rfl
    clear h0
    obtain ⟨x2, hx2, hsp2, hb2⟩ := alloc_spn x
    obtain ⟨sc, hsc⟩ : ∃ n, x.v.heap.size = n := ⟨_, rfl⟩
    rw [hsc] at hsp2
    have u0 := hsp2.c0; have u1 := hsp2.c1
    have hq2 := HSP.out.bel hb2
    obtain ⟨z5, hz5, hp5⟩ := store_spn x2 hq2 HSB.out 0 0
    have q0 := hq2.c0; have q1 := hq2.c1; have qf := hq2.fz
    have Q0 := hp5.c0; have Q1 := hp5.c1
    clear hp5 hq2 hb2 hsp2
    go_enter Try.func68, Try.ntmps68
    go_wp2_with fail
    try rw [hsb]
    try rw [hsc]
    try rw [hz5]
    exact bodyPost_ret (v := .tuple #[.agg #[.int .i64 0, .int .i64 0], .int .i64 3]) (by simp [results, Try.f68, go_sem, Q0, Q1]) rfl ⟨rfl, bT HB.out z5.b⟩
  | true =>
    clear h0
    obtain ⟨z5, hz5, hp5⟩ := store_spn x HSP.out HSB.out a b
    have Q0 := hp5.c0; have Q1 := hp5.c1
    clear hp5
    go_enter Try.func68, Try.ntmps68
    go_wp2_with fail
    try rw [hsb]
    try rw [hz5]
    exact bodyPost_ret (v := .tuple #[.agg #[.int .i64 a, .int .i64 b], .int .i64 0]) (by simp [results, Try.f68, go_sem, Q0, Q1]) rfl ⟨rfl, bT HB.out z5.b⟩
theorem lk_no {D : Ro} (h : (lkT D D.n).isSome = false) : lkA D = 0 ∧ lkB D = 0 := by
  unfold lkA lkB
  cases hk : lkT D D.n with
  | none => exact ⟨rfl, rfl⟩
  | some x => rw [hk] at h; cases h
def lkE (D : Ro) : Int := if (lkT D D.n).isSome then 0 else 3
set_option maxRecDepth 100000 in
set_option maxHeartbeats 2000000 in
theorem lackP_any (D : Ro) (p q : Option Addr) (c d : Nat) (w : World) (hD : OkP D) (hcap : D.n ≤ c) (hi0 : RoIn w w.heap.size D p q) :
    Calls Try.prog 20 #[.agg #[.slice p D.n c, .slice q D.m d]] w fun e w' => e = .returned (.tuple #[.agg #[.int .i64 (lkA D), .int .i64 (lkB D)], .int .i64 (lkE D)]) ∧ Below w.heap.size w w' := by
  obtain ⟨w1, x1, hw1, hb1, hz1, F0, F1, _⟩ := box_ro w p q D.n D.m c d
  obtain ⟨x, hx, hsp, _⟩ := alloc_spn x1
  obtain ⟨sb, hsb⟩ : ∃ n, x1.v.heap.size = n := ⟨_, rfl⟩
  have HB := Lib.hid hb1
  have HSB : Hid (w1.heap.size ≤ sb) := by rw [← hsb]; exact x1.b.size
  rw [hsb] at hsp
  have HSP := Lib.hid hsp
  have HI : Hid (∀ x : Ext w1, RoIn x.v x.v.heap.size D p q) := fun x => (hi0.bel HB.out).bel x.b
  have HD := Lib.hid hD
  have hm6 := hD.m; have hn8 := hD.n
  clear hb1 hz1 hi0 hD hsp
  have HO := Lib.hid (Ro.ok_iff.2 HD.out)
  have j0 : ((0 : Int) != 0) = false := by decide
  have HLK := Lib.hid (fun (V : World) hV => lackOf_any D p q c d V HD.out hcap hV)
  have HNO := Lib.hid (fun h => lk_no (D := D) h)
  unfold lkE
  obtain ⟨a, ea⟩ : ∃ a, lkA D = a := ⟨_, rfl⟩
  obtain ⟨b, eb⟩ : ∃ a, lkB D = a := ⟨_, rfl⟩
  obtain ⟨s, es⟩ : ∃ a, (lkT D D.n).isSome = a := ⟨_, rfl⟩
  rw [ea, eb, es] at HLK HNO ⊢
  clear ea eb es
  have HON := Lib.hid (fun V : World => orNone_spn a b s HNO.out V)
  obtain ⟨er, her⟩ : ∃ x : Int, (if s then 0 else 3) = x := ⟨_, rfl⟩
  rw [her] at HON ⊢
  clear her
  go_enter Try.func20, Try.ntmps20
  go_wp2_with fail
  try rw [hsb]
  clear hx hsb
  refine (checkP_is (chk_ok HO.out) _ (by unfold maxLen; omega) (by unfold maxLen; omega) (HI.out _)).mono ?_
  rintro e w2 ⟨rfl, hb2⟩
  obtain ⟨y2, hy2⟩ : ∃ zz : Ext w1, w2 = zz.v := ⟨⟨w2, bT x.b hb2⟩, rfl⟩
  have HQ2 := Lib.hid (HSP.out.bel hb2)
  subst hy2
  clear hb2
  go_wp2_with fail
  refine (HLK.out _ (HI.out _)).mono ?_
  rintro e w3 ⟨rfl, hb3⟩
  obtain ⟨y3, hy3⟩ : ∃ zz : Ext w1, w3 = zz.v := ⟨⟨w3, bT y2.b hb3⟩, rfl⟩
  have HQ3 := Lib.hid (HQ2.out.bel hb3)
  subst hy3
  clear hb3
  go_wp2_with fail
  refine (HON.out _).mono ?_
  rintro e w4 ⟨rfl, hb4⟩
  obtain ⟨y4, hy4⟩ : ∃ zz : Ext w1, w4 = zz.v := ⟨⟨w4, bT y3.b hb4⟩, rfl⟩
  have hq4 := HQ3.out.bel hb4
  subst hy4
  clear hb4
  obtain ⟨z5, hz5, hp5⟩ := store_spn y4 hq4 HSB.out a b
  have q0 := hq4.c0; have q1 := hq4.c1; have qf := hq4.fz
  have Q0 := hp5.c0; have Q1 := hp5.c1
  clear hp5 hq4
  go_wp2_with fail
  try rw [hz5]
  exact bodyPost_ret (v := .tuple #[.agg #[.int .i64 a, .int .i64 b], .int .i64 er]) (by simp [results, Try.f20, go_sem, Q0, Q1]) rfl ⟨rfl, bT HB.out z5.b⟩
set_option maxRecDepth 100000 in
set_option maxHeartbeats 2000000 in
theorem keep1_run (D : Ro) (p q : Option Addr) (d bx sx st : Nat) (hst : st < D.m) (V : World) (hI : RoIn V V.heap.size D p q) (h1 : V.cell? ⟨bx, 1, none⟩ = some (.slice q D.m d)) (h2 : V.cell? ⟨sx, 0, none⟩ = some (.int .i64 (st : Int))) (s h : Nat) (hs : s < D.m) :
    Calls Try.prog 102 #[.int .i64 (s : Int), .int .i64 (h : Int), .pointer (some ⟨sx, 0, none⟩), .pointer (some ⟨bx, 0, none⟩)] V fun e V' => e = .returned (.bool (keepM D st s h)) ∧ Below V.heap.size V V' := by
  obtain ⟨b, o, rfl, hbl, hc⟩ := hI.st (by omega)
  have e0 := hc.c0 s hs
  have hsm : (s : Int) < (D.m : Int) := by omega
  clear hI hc hbl
  by_cases e : s = st
  · subst e
    have j1 : ((s : Int) != (s : Int)) = false := by simp
    have HR := Lib.hid (show ((h : Int) == D.hs s) = keepM D s s h by simp only [keepM, ne_eq, not_true_eq_false, decide_false, Bool.false_or]; rw [Bool.eq_iff_iff]; simp)
    go_enter Try.func102, Try.ntmps102
    go_wp2
    go_ret
    exact ⟨ret_b HR.out, Below.refl _ _⟩
  · have j1 : ((s : Int) != (st : Int)) = true := by simp; omega
    have HR := Lib.hid (show true = keepM D st s h by simp [keepM, e])
    go_enter Try.func102, Try.ntmps102
    go_wp2
    go_ret
    exact ⟨ret_b HR.out, Below.refl _ _⟩
set_option maxRecDepth 100000 in
set_option maxHeartbeats 2000000 in
theorem lose1_run (D : Ro) (p q : Option Addr) (d bx sx st : Nat) (hst : st < D.m) (V : World) (hI : RoIn V V.heap.size D p q) (h1 : V.cell? ⟨bx, 1, none⟩ = some (.slice q D.m d)) (h2 : V.cell? ⟨sx, 0, none⟩ = some (.int .i64 (st : Int))) (s h : Nat) (hs : s < D.m) :
    Calls Try.prog 103 #[.int .i64 (s : Int), .int .i64 (h : Int), .pointer (some ⟨sx, 0, none⟩), .pointer (some ⟨bx, 0, none⟩)] V fun e V' => e = .returned (.bool (loseM D st s h)) ∧ Below V.heap.size V V' := by
  obtain ⟨b, o, rfl, hbl, hc⟩ := hI.st (by omega)
  have e0 := hc.c0 s hs
  have hsm : (s : Int) < (D.m : Int) := by omega
  clear hI hc hbl
  by_cases e : s = st
  · subst e
    have j1 : ((s : Int) != (s : Int)) = false := by simp
    have HR := Lib.hid (show ((h : Int) != D.hs s) = loseM D s s h by simp only [loseM, ne_eq, not_true_eq_false, decide_false, Bool.false_or]; rw [Bool.eq_iff_iff]; simp)
    go_enter Try.func103, Try.ntmps103
    go_wp2
    go_ret
    exact ⟨ret_b HR.out, Below.refl _ _⟩
  · have j1 : ((s : Int) != (st : Int)) = true := by simp; omega
    have HR := Lib.hid (show true = loseM D st s h by simp [loseM, e])
    go_enter Try.func103, Try.ntmps103
    go_wp2
    go_ret
    exact ⟨ret_b HR.out, Below.refl _ _⟩
set_option maxRecDepth 100000 in
set_option maxHeartbeats 8000000 in
theorem canCost_any (D : Ro) (M : Nat → Nat → Bool) (p q : Option Addr) (c d gm : Nat) (capm : Array Value) (hD : OkP D) (w : World) (hM : MayOk w D M gm capm) (hI : RoIn w w.heap.size D p q) :
    Calls Try.prog 104 #[.agg #[.slice p D.n c, .slice q D.m d], .func (.func gm) #[] capm, .int .i64 (lsC D)] w fun e w' => e = .returned (.bool (canB D M)) ∧ Below w.heap.size w w' := by
  obtain ⟨w1, x, hw1, hb1, hz1, F0, F1, _⟩ := box_ro w p q D.n D.m c d
  have HB := Lib.hid hb1; have HD := Lib.hid hD
  have HI : Hid (∀ x : Ext w1, RoIn x.v x.v.heap.size D p q) := fun x => (hI.bel hb1).bel x.b
  have HM := Lib.hid (fun y : Ext w1 => hM.up (bT hb1 y.b))
  have hm6 := hD.m; have hn8 := hD.n
  clear hb1 hz1 hI hD hM
  obtain ⟨bc, hbc⟩ : ∃ b, (best D (prO (prC D) M)).c = b := ⟨_, rfl⟩
  obtain ⟨bn, hbn⟩ : ∃ b, (best D (prO (prC D) M)).no = b := ⟨_, rfl⟩
  obtain ⟨ls, hls⟩ : ∃ b, lsC D = b := ⟨_, rfl⟩
  have HLE := Lib.hid (fun (w0 : World) (caps : Array Value) (fb mb gf : Nat) (hP : PrOk w0 D (prO (prC D) M) gf caps) (hR : RoIn w0 w0.heap.size D p q) (W : World) (hf : Fin w0 D (prO (prC D) M) p q c d (.func (.func gf) #[] caps) fb mb W) => least_any w0 D (prO (prC D) M) p q c d gf caps fb mb HD.out (prO_bd (prC_bd HD.out)) hP hR W hf)
  rw [hbc, hbn] at HLE
  unfold canB
  rw [hbc, hbn, hls]
  clear hbc hbn hls
  obtain ⟨r, hr⟩ : ∃ r, (!bn && decide (bc = ls)) = r := ⟨_, rfl⟩
  have HR := Lib.hid hr
  rw [hr]
  clear hr
  go_enter Try.func104, Try.ntmps104
  go_wp2
  refine wp_region_lastE 11 (by kernel_rfl) rfl (fun y0 => ?_)
  refine wpAnyG_take (i := 0) (v := ?_) (by kernel_rfl) rfl (by kernel_rfl) (by kernel_rfl) (by kernel_rfl) (fun _ _ _ h => h) (Or.inl ⟨by rfl, ?_⟩) ⟨_, rfl⟩ ?_
  rotate_left
  · rintro wS ⟨yS, rfl⟩
    go_simp
    try (with_reducible rfl)
  try simp only [Act.put, List.setIfInBounds_toArray, List.set_cons_zero, List.set_cons_succ]
  refine wpAnyG_take (i := 1) (v := ?_) (by kernel_rfl) rfl (by kernel_rfl) (by kernel_rfl) (by kernel_rfl) (fun _ _ _ h => h) (Or.inl ⟨by rfl, ?_⟩) ⟨_, rfl⟩ ?_
  rotate_left
  · rintro wS ⟨yS, rfl⟩
    go_simp
    try (with_reducible rfl)
  try simp only [Act.put, List.setIfInBounds_toArray, List.set_cons_zero, List.set_cons_succ]
  refine wpAnyG_take (i := 3) (v := ?_) (by kernel_rfl) rfl (by kernel_rfl) (by kernel_rfl) (by kernel_rfl) (fun _ _ _ h => h) (Or.inl ⟨by rfl, ?_⟩) ⟨_, rfl⟩ ?_
  rotate_left
  · rintro wS ⟨yS, rfl⟩
    go_simp
    try (with_reducible rfl)
  try simp only [Act.put, List.setIfInBounds_toArray, List.set_cons_zero, List.set_cons_succ]
  refine wpAnyG_one (i := 2) (by kernel_rfl) (by decide) (wpOp_plain rfl rfl ?_)
  go_simp
  go_at_call 64
  refine (costs_any D p q c d HD.out _ (HI.out y0)).mono ?_
  rintro e y1w ⟨c1, rfl, hb1, hp1⟩
  obtain ⟨y1, rfl⟩ : ∃ zz : Ext w1, y1w = zz.v := ⟨⟨y1w, bT y0.b hb1⟩, rfl⟩
  refine ⟨⟨_, rfl⟩, ?_⟩
  try simp only [Act.put, List.setIfInBounds_toArray, List.set_cons_zero, List.set_cons_succ]
  have HP1 := Lib.hid hp1; clear hp1 hb1
  refine wpAnyG_one (i := 4) (by kernel_rfl) (by decide) (wpOp_plain rfl rfl ?_)
  go_simp
  go_at_call 66
  refine (only_any D (prC D) _ _ _ c1 capm y1.v HP1.out (HM.out y1)).mono ?_
  rintro e y3w ⟨c3, rfl, hb3, hp3⟩
  obtain ⟨y3, rfl⟩ : ∃ zz : Ext w1, y3w = zz.v := ⟨⟨y3w, bT y1.b hb3⟩, rfl⟩
  refine ⟨⟨_, rfl⟩, ?_⟩
  try simp only [Act.put, List.setIfInBounds_toArray, List.set_cons_zero, List.set_cons_succ]
  have HP3 := Lib.hid hp3; clear hp3 hb3
  refine wpAnyG_one (i := 5) (by kernel_rfl) (by decide) (wpOp_plain rfl rfl ?_)
  go_simp
  go_at_call 63
  refine (newFinder_any D (prO (prC D) M) p q c d _ c3 y3.v).mono ?_
  rintro e y4w ⟨fb, mb, rfl, hb4, hf4⟩
  obtain ⟨y4, rfl⟩ : ∃ zz : Ext w1, y4w = zz.v := ⟨⟨y4w, bT y3.b hb4⟩, rfl⟩
  refine ⟨⟨_, rfl⟩, ?_⟩
  try simp only [Act.put, List.setIfInBounds_toArray, List.set_cons_zero, List.set_cons_succ]
  have HF4 := Lib.hid hf4; clear hf4 hb4
  refine wpAnyG_one (i := 6) (by kernel_rfl) (by decide) (wpOp_plain rfl rfl ?_)
  go_simp
  go_at_call 90
  refine (HLE.out y3.v c3 fb mb 96 HP3.out (HI.out y3) y4.v HF4.out).mono ?_
  rintro e y5w ⟨rfl, hg5, hm5⟩
  obtain ⟨y5, rfl⟩ : ∃ zz : Ext w1, y5w = zz.v := ⟨⟨y5w, bT y3.b (HF4.out.gr hg5 hm5).b⟩, rfl⟩
  refine ⟨⟨_, rfl⟩, ?_⟩
  try simp only [Act.put, List.setIfInBounds_toArray, List.set_cons_zero, List.set_cons_succ]
  clear hg5 hm5
  refine wpAnyG_take (i := 7) (v := ?_) (by kernel_rfl) rfl (by kernel_rfl) (by kernel_rfl) (by kernel_rfl) (fun _ _ _ h => h) (Or.inl ⟨by rfl, ?_⟩) ⟨_, rfl⟩ ?_
  rotate_left
  · rintro wS ⟨yS, rfl⟩
    go_simp
    try (with_reducible rfl)
  try simp only [Act.put, List.setIfInBounds_toArray, List.set_cons_zero, List.set_cons_succ]
  refine wpAnyG_take (i := 8) (v := ?_) (by kernel_rfl) rfl (by kernel_rfl) (by kernel_rfl) (by kernel_rfl) (fun _ _ _ h => h) (Or.inl ⟨by rfl, ?_⟩) ⟨_, rfl⟩ ?_
  rotate_left
  · rintro wS ⟨yS, rfl⟩
    go_simp
    try (with_reducible rfl)
  try simp only [Act.put, List.setIfInBounds_toArray, List.set_cons_zero, List.set_cons_succ]
  refine wpAnyG_take (i := 9) (v := ?_) (by kernel_rfl) rfl (by kernel_rfl) (by kernel_rfl) (by kernel_rfl) (fun _ _ _ h => h) (Or.inl ⟨by rfl, ?_⟩) ⟨_, rfl⟩ ?_
  rotate_left
  · rintro wS ⟨yS, rfl⟩
    go_simp
    try (with_reducible rfl)
  try simp only [Act.put, List.setIfInBounds_toArray, List.set_cons_zero, List.set_cons_succ]
  refine wpAnyG_take (i := 10) (v := ?_) (by kernel_rfl) rfl (by kernel_rfl) (by kernel_rfl) (by kernel_rfl) (fun _ _ _ h => h) (Or.inl ⟨by rfl, ?_⟩) ⟨_, rfl⟩ ?_
  rotate_left
  · rintro wS ⟨yS, rfl⟩
    go_simp
    try (with_reducible rfl)
  try simp only [Act.put, List.setIfInBounds_toArray, List.set_cons_zero, List.set_cons_succ]
  refine wpAnyG_done (by kernel_rfl) (by kernel_rfl) (wpOp_plain rfl rfl ?_)
  go_simp
  cases bn with
  | true =>
    go_wp2
    go_ret
    exact ⟨ret_b (by rw [← HR.out]; rfl), bT HB.out y5.b⟩
  | false =>
    have HRR := Lib.hid (show (bc == ls) = r by rw [← HR.out, Bool.eq_iff_iff]; simp)
    go_wp2
    go_ret
    exact ⟨ret_b HRR.out, bT HB.out y5.b⟩
end Go.Proofs.Ytegkgfiaegpihaa
