/- Boxes of mouths: what From and Need answer; From, Need, Between for any question, of both. -/
import Derived.Test.YthbicbmlbblflaaC21

set_option linter.unusedSimpArgs false

set_option linter.unusedVariables false

namespace Go.Proofs.Ythbicbmlbblflaa

open Go.RowKit Go.Shelf
attribute [local go_sem] Oper.semAt_some


theorem fsN_succ (P : Nat → Bool) (n : Nat) : fsN P (n + 1) = match fsN P n with | some x => some x | none => if P n then some n else none := rfl
theorem fsN_all {P : Nat → Bool} : ∀ {n : Nat}, fsN P n = none → ∀ i, i < n → P i = false
  | 0, _, i, hi => absurd hi (Nat.not_lt_zero _)
  | n + 1, h, i, hi => by
    rw [fsN_succ] at h
    cases h2 : fsN P n with
    | some x => rw [h2] at h; cases h
    | none =>
      rw [h2] at h
      cases hp : P n with
      | true => rw [hp] at h; simp at h
      | false =>
        rcases Nat.lt_succ_iff_lt_or_eq.1 hi with h1 | rfl
        · exact fsN_all h2 i h1
        · exact hp
theorem fsN_spec {P : Nat → Bool} : ∀ {n k : Nat}, fsN P n = some k → k < n ∧ P k = true ∧ ∀ i, i < k → P i = false
  | 0, k, h => by cases h
  | n + 1, k, h => by
    rw [fsN_succ] at h
    cases h2 : fsN P n with
    | some x =>
      rw [h2] at h
      cases h
      obtain ⟨a, b, c⟩ := fsN_spec h2
      exact ⟨by omega, b, c⟩
    | none =>
      rw [h2] at h
      cases hp : P n with
      | false => rw [hp] at h; simp at h
      | true =>
        rw [hp] at h
        simp at h
        subst h
        exact ⟨Nat.lt_succ_self _, hp, fsN_all h2⟩
/-- the flow of From: the gauge before is the quarter's, and it has just so many -/
theorem from_spec {D : Bx} {A G n : Nat} (hok : D.ok = true) (hG : 0 < G) (h : fsN (hasB D A G) 41 = some n) : ∃ m, n = m + 1 ∧ m < 40 ∧ nx D (gv D m) = some A ∧ gv D n A = (G : Int) ∧ decide ((G : Int) ≤ gv D 40 A) = true := by
  obtain ⟨h1, h2, h3⟩ := fsN_spec h
  have h2' : (G : Int) ≤ gv D n A := by unfold hasB at h2; simpa using h2
  cases n with
  | zero =>
    have : gv D 0 A = 0 := rfl
    omega
  | succ m =>
    have h4 := h3 m (by omega)
    have h4' : ¬ (G : Int) ≤ gv D m A := by unfold hasB at h4; simpa using h4
    have h5 := gv_monoQ (D := D) (f := m + 1) (e := 40) (by omega) A
    refine ⟨m, rfl, by omega, ?_, ?_, by simp; omega⟩
    · cases hx : nx D (gv D m) with
      | none => rw [(nx_none_next hx).1] at h2'; exact absurd h2' h4'
      | some b =>
        rw [(nx_some_next hx).1] at h2'
        by_cases e : A = b
        · rw [e]
        · rw [up_ne _ e] at h2'; exact absurd h2' h4'
    · cases hx : nx D (gv D m) with
      | none => rw [(nx_none_next hx).1] at h2'; exact absurd h2' h4'
      | some b =>
        rw [(nx_some_next hx).1] at h2' ⊢
        by_cases e : A = b
        · subst e; rw [up_same] at *; omega
        · rw [up_ne _ e] at h2'; exact absurd h2' h4'
theorem from_none {D : Bx} {A G : Nat} (h : fsN (hasB D A G) 41 = none) : decide ((G : Int) ≤ gv D 40 A) = false := fsN_all h 40 (by omega)
/-- from which share on a quarter has so many, 21 where there is none -/
theorem need_spec {D : Bx} {A F G : Nat} (hok : D.ok = true) (hG : 0 < G) : ∃ S, 1 ≤ S ∧ S ≤ 21 ∧ (∀ u, u + 1 = S → needB D A F G u = false) ∧ (S ≤ 20 → needB D A F G S = true) ∧
    ((fsN (needB D A F G) 21 = none ∧ S = 21) ∨ fsN (needB D A F G) 21 = some S) := by
  cases h : fsN (needB D A F G) 21 with
  | none => exact ⟨21, by omega, by omega, fun u hu => fsN_all h u (by omega), fun h => absurd h (by omega), .inl ⟨rfl, rfl⟩⟩
  | some S =>
    obtain ⟨h1, h2, h3⟩ := fsN_spec h
    refine ⟨S, ?_, by omega, fun u hu => h3 u (by omega), fun _ => h2, .inr rfl⟩
    cases S with
    | succ S => omega
    | zero =>
      exfalso
      have hz : gv (Bx.setSh D A ((0 : Nat) : Int)) F A = 0 := (gv_bd (Bx.setSh_ok hok A (v := ((0 : Nat) : Int)) ⟨by simp, by simp⟩) F A).2.2.2 (by show (if A = A then _ else _) = _; rw [if_pos rfl]; rfl)
      have : (G : Int) ≤ gv (Bx.setSh D A ((0 : Nat) : Int)) F A := by unfold needB at h2; simpa using h2
      omega
theorem neq_span (a b : Int) (w : World) : (binOp .neq 67 (.agg #[.int .i64 a, .int .i64 b]) (.agg #[.int .i64 a, .int .i64 b])).run Try.prog w = .ok (.bool false) w := by
  go_simp


def isFr (D : Bx) (k n : Int) : Bool := isQ D k && within n 1 20
def isNd (D : Bx) (k fl n : Int) : Bool := (isQ D k && within fl 0 40) && within n 1 20
def frV (D : Bx) (k n : Int) : Int := if chkE D.ok (isFr D k n) = 0 then onI (fsN (hasB D k.toNat n.toNat) 41) else 0
def frW (D : Bx) (k n : Int) : Int := if chkE D.ok (isFr D k n) = 0 then noneE (fsN (hasB D k.toNat n.toNat) 41).isSome else chkE D.ok (isFr D k n)
def ndV (D : Bx) (k fl n : Int) : Int := if chkE D.ok (isNd D k fl n) = 0 then onI (fsN (needB D k.toNat fl.toNat n.toNat) 21) else 0
def ndW (D : Bx) (k fl n : Int) : Int := if chkE D.ok (isNd D k fl n) = 0 then noneE (fsN (needB D k.toNat fl.toNat n.toNat) 21).isSome else chkE D.ok (isNd D k fl n)
theorem chk_split {ok b : Bool} (h : chkE ok b = 0) : ok = true ∧ b = true := chkE_ok.1 h
theorem fr_parts {D : Bx} {k n : Int} (h : chkE D.ok (isFr D k n) = 0) : D.ok = true ∧ ∃ A G : Nat, k = (A : Int) ∧ n = (G : Int) ∧ A < D.n ∧ 0 < G ∧ G ≤ 20 := by
  obtain ⟨h1, h2⟩ := chk_split h
  simp only [isFr, Bool.and_eq_true] at h2
  obtain ⟨A, rfl, hA⟩ := isQ_nat h2.1
  have := within_iff.1 h2.2
  exact ⟨h1, A, n.toNat, rfl, by omega, hA, by omega, by omega⟩
theorem nd_parts {D : Bx} {k fl n : Int} (h : chkE D.ok (isNd D k fl n) = 0) : D.ok = true ∧ ∃ A F G : Nat, k = (A : Int) ∧ fl = (F : Int) ∧ n = (G : Int) ∧ A < D.n ∧ F ≤ 40 ∧ 0 < G ∧ G ≤ 20 := by
  obtain ⟨h1, h2⟩ := chk_split h
  simp only [isNd, Bool.and_eq_true] at h2
  obtain ⟨A, rfl, hA⟩ := isQ_nat h2.1.1
  have := within_iff.1 h2.2
  have := within_iff.1 h2.1.2
  exact ⟨h1, A, fl.toNat, n.toNat, rfl, by omega, by omega, hA, by omega, by omega, by omega⟩
set_option maxRecDepth 100000 in
set_option maxHeartbeats 4000000 in
theorem fromP_err (D : Bx) (p q : Option Addr) (c d : Nat) (k n : Int) (w : World) (hn : D.n ≤ 40) (hm : D.m ≤ 40) (hi : BxIn w w.heap.size D p q) (he : chkE D.ok (isFr D k n) ≠ 0) :
    Calls Try.prog 28 #[.agg #[.slice p D.n c, .slice q D.m d], .int .i64 k, .int .i64 n] w fun e w' => e = .returned (.tuple #[.int .i64 0, .int .i64 (chkE D.ok (isFr D k n))]) ∧ Below w.heap.size w w' := by
  obtain ⟨w1, x, hw1, hb1, hz1, F0, F1⟩ := box_bx w p q D.n D.m c d
  have HB := Lib.hid hb1
  have HI : Hid (∀ x : Ext w1, BxIn x.v x.v.heap.size D p q) := fun x => (hi.bel hb1).bel x.b
  clear hb1 hz1 hi
  have j0 : (chkE D.ok (isFr D k n) != 0) = true := by simpa using he
  have HA := Lib.hid (show ∀ V : World, BxIn V V.heap.size D p q → Calls Try.prog 60 #[.agg #[.slice p D.n c, .slice q D.m d], .bool (isFr D k n)] V fun e w' => e = .returned (.int .i64 (chkE D.ok (isFr D k n))) ∧ Below V.heap.size V w' from fun V h => check_is rfl hn hm h)
  generalize chkE D.ok (isFr D k n) = ev at j0 HA ⊢
  clear he
  cases hq : isQ D k with
  | false =>
    have hv : isFr D k n = false := by unfold isFr; rw [hq]; first | rfl | (rw [Bool.false_and]; done) | (rw [Bool.false_and, Bool.false_and]; done)
    rw [hv] at HA
    have HQ := Lib.hid (show ∀ V : World, Calls Try.prog 73 #[.agg #[.slice p D.n c, .slice q D.m d], .int .i64 k] V fun e w' => e = .returned (.bool false) ∧ Below V.heap.size V w' from fun V => by
      have := isQuarter_any D p q c d k V
      rw [hq] at this
      exact this)
    clear hv hq
    go_enter Try.func28, Try.ntmps28
    go_wp2
    refine quiet_e (by kernel_rfl) (by kernel_rfl) ?_
    repeat (first | go_big_quiet_step ((first | (go_at_call 73; exact quiet_x (HQ.out _)) | (go_at_call 60; exact quiet_x (HA.out _ (HI.out _))))) | quiet_step ((first | (go_at_call 73; exact quiet_x (HQ.out _)) | (go_at_call 60; exact quiet_x (HA.out _ (HI.out _))))))
    refine wpQuiet_nil ?_
    intro w6 hw6
    obtain ⟨yq, rfl⟩ := hw6
    go_wp2
    go_ret2
    exact ⟨rfl, bT HB.out yq.b⟩
  | true =>
    cases hg : within n 1 20 with
    | false =>
      have hv : isFr D k n = false := by unfold isFr; rw [hq, hg]; first | rfl | (rw [Bool.false_and]; done) | (rw [Bool.false_and, Bool.false_and]; done)
      rw [hv] at HA
      have HQ := Lib.hid (show ∀ V : World, Calls Try.prog 73 #[.agg #[.slice p D.n c, .slice q D.m d], .int .i64 k] V fun e w' => e = .returned (.bool true) ∧ Below V.heap.size V w' from fun V => by
        have := isQuarter_any D p q c d k V
        rw [hq] at this
        exact this)
      have HG := Lib.hid (show ∀ V : World, Calls Try.prog 74 #[.int .i64 n] V fun e w' => e = .returned (.bool false) ∧ Below V.heap.size V w' from fun V => by
        have := isMany_any n V
        rw [hg] at this
        exact this)
      clear hv hq hg
      go_enter Try.func28, Try.ntmps28
      go_wp2
      refine quiet_e (by kernel_rfl) (by kernel_rfl) ?_
      repeat (first | go_big_quiet_step ((first | (go_at_call 73; exact quiet_x (HQ.out _)) | (go_at_call 74; exact quiet_x (HG.out _)) | (go_at_call 60; exact quiet_x (HA.out _ (HI.out _))))) | quiet_step ((first | (go_at_call 73; exact quiet_x (HQ.out _)) | (go_at_call 74; exact quiet_x (HG.out _)) | (go_at_call 60; exact quiet_x (HA.out _ (HI.out _))))))
      refine wpQuiet_nil ?_
      intro w6 hw6
      obtain ⟨yq, rfl⟩ := hw6
      go_wp2
      go_ret2
      exact ⟨rfl, bT HB.out yq.b⟩
    | true =>
      have hv : isFr D k n = true := by unfold isFr; rw [hq, hg]; first | rfl | (rw [Bool.false_and]; done) | (rw [Bool.false_and, Bool.false_and]; done)
      rw [hv] at HA
      have HQ := Lib.hid (show ∀ V : World, Calls Try.prog 73 #[.agg #[.slice p D.n c, .slice q D.m d], .int .i64 k] V fun e w' => e = .returned (.bool true) ∧ Below V.heap.size V w' from fun V => by
        have := isQuarter_any D p q c d k V
        rw [hq] at this
        exact this)
      have HG := Lib.hid (show ∀ V : World, Calls Try.prog 74 #[.int .i64 n] V fun e w' => e = .returned (.bool true) ∧ Below V.heap.size V w' from fun V => by
        have := isMany_any n V
        rw [hg] at this
        exact this)
      clear hv hq hg
      go_enter Try.func28, Try.ntmps28
      go_wp2
      refine quiet_e (by kernel_rfl) (by kernel_rfl) ?_
      repeat (first | go_big_quiet_step ((first | (go_at_call 73; exact quiet_x (HQ.out _)) | (go_at_call 74; exact quiet_x (HG.out _)) | (go_at_call 60; exact quiet_x (HA.out _ (HI.out _))))) | quiet_step ((first | (go_at_call 73; exact quiet_x (HQ.out _)) | (go_at_call 74; exact quiet_x (HG.out _)) | (go_at_call 60; exact quiet_x (HA.out _ (HI.out _))))))
      refine wpQuiet_nil ?_
      intro w6 hw6
      obtain ⟨yq, rfl⟩ := hw6
      go_wp2
      go_ret2
      exact ⟨rfl, bT HB.out yq.b⟩
set_option maxRecDepth 100000 in
set_option maxHeartbeats 4000000 in
theorem needP_err (D : Bx) (p q : Option Addr) (c d : Nat) (k fl n : Int) (w : World) (hn : D.n ≤ 40) (hm : D.m ≤ 40) (hi : BxIn w w.heap.size D p q) (he : chkE D.ok (isNd D k fl n) ≠ 0) :
    Calls Try.prog 33 #[.agg #[.slice p D.n c, .slice q D.m d], .int .i64 k, .int .i64 fl, .int .i64 n] w fun e w' => e = .returned (.tuple #[.int .i64 0, .int .i64 (chkE D.ok (isNd D k fl n))]) ∧ Below w.heap.size w w' := by
  obtain ⟨w1, x, hw1, hb1, hz1, F0, F1⟩ := box_bx w p q D.n D.m c d
  have HB := Lib.hid hb1
  have HI : Hid (∀ x : Ext w1, BxIn x.v x.v.heap.size D p q) := fun x => (hi.bel hb1).bel x.b
  clear hb1 hz1 hi
  have j0 : (chkE D.ok (isNd D k fl n) != 0) = true := by simpa using he
  have HA := Lib.hid (show ∀ V : World, BxIn V V.heap.size D p q → Calls Try.prog 60 #[.agg #[.slice p D.n c, .slice q D.m d], .bool (isNd D k fl n)] V fun e w' => e = .returned (.int .i64 (chkE D.ok (isNd D k fl n))) ∧ Below V.heap.size V w' from fun V h => check_is rfl hn hm h)
  generalize chkE D.ok (isNd D k fl n) = ev at j0 HA ⊢
  clear he
  cases hq : isQ D k with
  | false =>
    have hv : isNd D k fl n = false := by unfold isNd; rw [hq]; first | rfl | (rw [Bool.false_and]; done) | (rw [Bool.false_and, Bool.false_and]; done)
    rw [hv] at HA
    have HQ := Lib.hid (show ∀ V : World, Calls Try.prog 73 #[.agg #[.slice p D.n c, .slice q D.m d], .int .i64 k] V fun e w' => e = .returned (.bool false) ∧ Below V.heap.size V w' from fun V => by
      have := isQuarter_any D p q c d k V
      rw [hq] at this
      exact this)
    clear hv hq
    go_enter Try.func33, Try.ntmps33
    go_wp2_with fail
    refine (quiet_x (HQ.out _)).mono ?_
    rintro e w' ⟨rfl, y, rfl⟩
    go_wp2_with fail
    refine (quiet_x (HA.out _ (HI.out _))).mono ?_
    rintro e w' ⟨rfl, yq, rfl⟩
    go_wp2
    go_ret2
    exact ⟨rfl, bT HB.out yq.b⟩
  | true =>
    cases hf : within fl 0 40 with
    | false =>
      have hv : isNd D k fl n = false := by unfold isNd; rw [hq, hf]; first | rfl | (rw [Bool.false_and]; done) | (rw [Bool.false_and, Bool.false_and]; done)
      rw [hv] at HA
      have HQ := Lib.hid (show ∀ V : World, Calls Try.prog 73 #[.agg #[.slice p D.n c, .slice q D.m d], .int .i64 k] V fun e w' => e = .returned (.bool true) ∧ Below V.heap.size V w' from fun V => by
        have := isQuarter_any D p q c d k V
        rw [hq] at this
        exact this)
      have HV := Lib.hid ((allW_one fl 0 40).trans hf)
      clear hv hq hf
      go_enter Try.func33, Try.ntmps33
      go_wp2_with fail
      refine (quiet_x (HQ.out _)).mono ?_
      rintro e w' ⟨rfl, y, rfl⟩
      obtain ⟨ya, hya, hna⟩ := one_flow (x := y) (fl := fl) (t := 3)
      have HN := Lib.hid hna; clear hna
      go_wp2_with fail
      refine (areFlows_any 1 1 (fun _ => fl) _ _ (by omega) HN.out).mono ?_
      rintro e w' ⟨rfl, rfl⟩
      rw [HV.out]
      clear hya
      go_wp2_with fail
      refine (quiet_x (HA.out _ (HI.out _))).mono ?_
      rintro e w' ⟨rfl, yq, rfl⟩
      go_wp2
      go_ret2
      exact ⟨rfl, bT HB.out yq.b⟩
    | true =>
      cases hg : within n 1 20 with
      | false =>
        have hv : isNd D k fl n = false := by unfold isNd; rw [hq, hf, hg]; first | rfl | (rw [Bool.false_and]; done) | (rw [Bool.false_and, Bool.false_and]; done)
        rw [hv] at HA
        have HQ := Lib.hid (show ∀ V : World, Calls Try.prog 73 #[.agg #[.slice p D.n c, .slice q D.m d], .int .i64 k] V fun e w' => e = .returned (.bool true) ∧ Below V.heap.size V w' from fun V => by
          have := isQuarter_any D p q c d k V
          rw [hq] at this
          exact this)
        have HV := Lib.hid ((allW_one fl 0 40).trans hf)
        have HG := Lib.hid (show ∀ V : World, Calls Try.prog 74 #[.int .i64 n] V fun e w' => e = .returned (.bool false) ∧ Below V.heap.size V w' from fun V => by
          have := isMany_any n V
          rw [hg] at this
          exact this)
        clear hv hq hf hg
        go_enter Try.func33, Try.ntmps33
        go_wp2_with fail
        refine (quiet_x (HQ.out _)).mono ?_
        rintro e w' ⟨rfl, y, rfl⟩
        obtain ⟨ya, hya, hna⟩ := one_flow (x := y) (fl := fl) (t := 3)
        have HN := Lib.hid hna; clear hna
        go_wp2_with fail
        refine (areFlows_any 1 1 (fun _ => fl) _ _ (by omega) HN.out).mono ?_
        rintro e w' ⟨rfl, rfl⟩
        rw [HV.out]
        clear hya
        go_wp2_with fail
        refine (quiet_x (HG.out _)).mono ?_
        rintro e w' ⟨rfl, y2, rfl⟩
        go_wp2_with fail
        refine (quiet_x (HA.out _ (HI.out _))).mono ?_
        rintro e w' ⟨rfl, yq, rfl⟩
        go_wp2
        go_ret2
        exact ⟨rfl, bT HB.out yq.b⟩
      | true =>
        have hv : isNd D k fl n = true := by unfold isNd; rw [hq, hf, hg]; first | rfl | (rw [Bool.false_and]; done) | (rw [Bool.false_and, Bool.false_and]; done)
        rw [hv] at HA
        have HQ := Lib.hid (show ∀ V : World, Calls Try.prog 73 #[.agg #[.slice p D.n c, .slice q D.m d], .int .i64 k] V fun e w' => e = .returned (.bool true) ∧ Below V.heap.size V w' from fun V => by
          have := isQuarter_any D p q c d k V
          rw [hq] at this
          exact this)
        have HV := Lib.hid ((allW_one fl 0 40).trans hf)
        have HG := Lib.hid (show ∀ V : World, Calls Try.prog 74 #[.int .i64 n] V fun e w' => e = .returned (.bool true) ∧ Below V.heap.size V w' from fun V => by
          have := isMany_any n V
          rw [hg] at this
          exact this)
        clear hv hq hf hg
        go_enter Try.func33, Try.ntmps33
        go_wp2_with fail
        refine (quiet_x (HQ.out _)).mono ?_
        rintro e w' ⟨rfl, y, rfl⟩
        obtain ⟨ya, hya, hna⟩ := one_flow (x := y) (fl := fl) (t := 3)
        have HN := Lib.hid hna; clear hna
        go_wp2_with fail
        refine (areFlows_any 1 1 (fun _ => fl) _ _ (by omega) HN.out).mono ?_
        rintro e w' ⟨rfl, rfl⟩
        rw [HV.out]
        clear hya
        go_wp2_with fail
        refine (quiet_x (HG.out _)).mono ?_
        rintro e w' ⟨rfl, y2, rfl⟩
        go_wp2_with fail
        refine (quiet_x (HA.out _ (HI.out _))).mono ?_
        rintro e w' ⟨rfl, yq, rfl⟩
        go_wp2
        go_ret2
        exact ⟨rfl, bT HB.out yq.b⟩
set_option maxRecDepth 100000 in
set_option maxHeartbeats 4000000 in
theorem fromR_err (D : Bx) (p q : Option Addr) (c d : Nat) (k n : Int) (w : World) (hn : D.n ≤ 40) (hm : D.m ≤ 40) (hi : BxIn w w.heap.size D p q) (he : chkE D.ok (isFr D k n) ≠ 0) :
    Calls Try.prog 29 #[.agg #[.slice p D.n c, .slice q D.m d], .int .i64 k, .int .i64 n] w fun e w' => e = .returned (.tuple #[.int .i64 0, .int .i64 (chkE D.ok (isFr D k n))]) ∧ Below w.heap.size w w' := by
  obtain ⟨w1, x, hw1, hb1, hz1, F0, F1⟩ := box_bx w p q D.n D.m c d
  have HB := Lib.hid hb1
  have HI : Hid (∀ x : Ext w1, BxIn x.v x.v.heap.size D p q) := fun x => (hi.bel hb1).bel x.b
  clear hb1 hz1 hi
  have j0 : (chkE D.ok (isFr D k n) != 0) = true := by simpa using he
  have HA := Lib.hid (show ∀ V : World, BxIn V V.heap.size D p q → Calls Try.prog 65 #[.agg #[.slice p D.n c, .slice q D.m d], .bool (isFr D k n)] V fun e w' => e = .returned (.int .i64 (chkE D.ok (isFr D k n))) ∧ Below V.heap.size V w' from fun V h => ask_is rfl hn hm h)
  generalize chkE D.ok (isFr D k n) = ev at j0 HA ⊢
  clear he
  cases hq : isQ D k with
  | false =>
    have hv : isFr D k n = false := by unfold isFr; rw [hq]; first | rfl | (rw [Bool.false_and]; done) | (rw [Bool.false_and, Bool.false_and]; done)
    rw [hv] at HA
    have HQ := Lib.hid (show ∀ V : World, Calls Try.prog 50 #[.agg #[.slice p D.n c, .slice q D.m d], .int .i64 k] V fun e w' => e = .returned (.bool false) ∧ Below V.heap.size V w' from fun V => by
      have := isQuarterR_any D p q c d k V hn
      rw [hq] at this
      exact this)
    clear hv hq
    go_enter Try.func29, Try.ntmps29
    go_wp2
    refine quiet_e (by kernel_rfl) (by kernel_rfl) ?_
    repeat (first | go_big_quiet_step ((first | (go_at_call 50; exact quiet_x (HQ.out _)) | (go_at_call 65; exact quiet_x (HA.out _ (HI.out _))))) | quiet_step ((first | (go_at_call 50; exact quiet_x (HQ.out _)) | (go_at_call 65; exact quiet_x (HA.out _ (HI.out _))))))
    refine wpQuiet_nil ?_
    intro w6 hw6
    obtain ⟨yq, rfl⟩ := hw6
    go_wp2
    go_ret2
    exact ⟨rfl, bT HB.out yq.b⟩
  | true =>
    cases hg : within n 1 20 with
    | false =>
      have hv : isFr D k n = false := by unfold isFr; rw [hq, hg]; first | rfl | (rw [Bool.false_and]; done) | (rw [Bool.false_and, Bool.false_and]; done)
      rw [hv] at HA
      have HQ := Lib.hid (show ∀ V : World, Calls Try.prog 50 #[.agg #[.slice p D.n c, .slice q D.m d], .int .i64 k] V fun e w' => e = .returned (.bool true) ∧ Below V.heap.size V w' from fun V => by
        have := isQuarterR_any D p q c d k V hn
        rw [hq] at this
        exact this)
      have HG := Lib.hid (show ∀ V : World, Calls Try.prog 57 #[.int .i64 n] V fun e w' => e = .returned (.bool false) ∧ V = w' from fun V => by
        have := isGaugesR_any n V
        rw [hg] at this
        exact this)
      clear hv hq hg
      go_enter Try.func29, Try.ntmps29
      go_wp2
      refine quiet_e (by kernel_rfl) (by kernel_rfl) ?_
      repeat (first | go_big_quiet_step ((first | (go_at_call 50; exact quiet_x (HQ.out _)) | (go_at_call 57; exact quiet_s (HG.out _)) | (go_at_call 65; exact quiet_x (HA.out _ (HI.out _))))) | quiet_step ((first | (go_at_call 50; exact quiet_x (HQ.out _)) | (go_at_call 57; exact quiet_s (HG.out _)) | (go_at_call 65; exact quiet_x (HA.out _ (HI.out _))))))
      refine wpQuiet_nil ?_
      intro w6 hw6
      obtain ⟨yq, rfl⟩ := hw6
      go_wp2
      go_ret2
      exact ⟨rfl, bT HB.out yq.b⟩
    | true =>
      have hv : isFr D k n = true := by unfold isFr; rw [hq, hg]; first | rfl | (rw [Bool.false_and]; done) | (rw [Bool.false_and, Bool.false_and]; done)
      rw [hv] at HA
      have HQ := Lib.hid (show ∀ V : World, Calls Try.prog 50 #[.agg #[.slice p D.n c, .slice q D.m d], .int .i64 k] V fun e w' => e = .returned (.bool true) ∧ Below V.heap.size V w' from fun V => by
        have := isQuarterR_any D p q c d k V hn
        rw [hq] at this
        exact this)
      have HG := Lib.hid (show ∀ V : World, Calls Try.prog 57 #[.int .i64 n] V fun e w' => e = .returned (.bool true) ∧ V = w' from fun V => by
        have := isGaugesR_any n V
        rw [hg] at this
        exact this)
      clear hv hq hg
      go_enter Try.func29, Try.ntmps29
      go_wp2
      refine quiet_e (by kernel_rfl) (by kernel_rfl) ?_
      repeat (first | go_big_quiet_step ((first | (go_at_call 50; exact quiet_x (HQ.out _)) | (go_at_call 57; exact quiet_s (HG.out _)) | (go_at_call 65; exact quiet_x (HA.out _ (HI.out _))))) | quiet_step ((first | (go_at_call 50; exact quiet_x (HQ.out _)) | (go_at_call 57; exact quiet_s (HG.out _)) | (go_at_call 65; exact quiet_x (HA.out _ (HI.out _))))))
      refine wpQuiet_nil ?_
      intro w6 hw6
      obtain ⟨yq, rfl⟩ := hw6
      go_wp2
      go_ret2
      exact ⟨rfl, bT HB.out yq.b⟩
set_option maxRecDepth 100000 in
set_option maxHeartbeats 4000000 in
theorem needR_err (D : Bx) (p q : Option Addr) (c d : Nat) (k fl n : Int) (w : World) (hn : D.n ≤ 40) (hm : D.m ≤ 40) (hi : BxIn w w.heap.size D p q) (he : chkE D.ok (isNd D k fl n) ≠ 0) :
    Calls Try.prog 34 #[.agg #[.slice p D.n c, .slice q D.m d], .int .i64 k, .int .i64 fl, .int .i64 n] w fun e w' => e = .returned (.tuple #[.int .i64 0, .int .i64 (chkE D.ok (isNd D k fl n))]) ∧ Below w.heap.size w w' := by
  obtain ⟨w1, x, hw1, hb1, hz1, F0, F1⟩ := box_bx w p q D.n D.m c d
  have HB := Lib.hid hb1
  have HI : Hid (∀ x : Ext w1, BxIn x.v x.v.heap.size D p q) := fun x => (hi.bel hb1).bel x.b
  clear hb1 hz1 hi
  have j0 : (chkE D.ok (isNd D k fl n) != 0) = true := by simpa using he
  have HA := Lib.hid (show ∀ V : World, BxIn V V.heap.size D p q → Calls Try.prog 65 #[.agg #[.slice p D.n c, .slice q D.m d], .bool (isNd D k fl n)] V fun e w' => e = .returned (.int .i64 (chkE D.ok (isNd D k fl n))) ∧ Below V.heap.size V w' from fun V h => ask_is rfl hn hm h)
  generalize chkE D.ok (isNd D k fl n) = ev at j0 HA ⊢
  clear he
  cases hq : isQ D k with
  | false =>
    have hv : isNd D k fl n = false := by unfold isNd; rw [hq]; first | rfl | (rw [Bool.false_and]; done) | (rw [Bool.false_and, Bool.false_and]; done)
    rw [hv] at HA
    have HQ := Lib.hid (show ∀ V : World, Calls Try.prog 50 #[.agg #[.slice p D.n c, .slice q D.m d], .int .i64 k] V fun e w' => e = .returned (.bool false) ∧ Below V.heap.size V w' from fun V => by
      have := isQuarterR_any D p q c d k V hn
      rw [hq] at this
      exact this)
    clear hv hq
    go_enter Try.func34, Try.ntmps34
    go_wp2
    refine quiet_e (by kernel_rfl) (by kernel_rfl) ?_
    repeat (first | go_big_quiet_step ((first | (go_at_call 50; exact quiet_x (HQ.out _)) | (go_at_call 65; exact quiet_x (HA.out _ (HI.out _))))) | quiet_step ((first | (go_at_call 50; exact quiet_x (HQ.out _)) | (go_at_call 65; exact quiet_x (HA.out _ (HI.out _))))))
    refine wpQuiet_nil ?_
    intro w6 hw6
    obtain ⟨yq, rfl⟩ := hw6
    go_wp2
    go_ret2
    exact ⟨rfl, bT HB.out yq.b⟩
  | true =>
    cases hf : within fl 0 40 with
    | false =>
      have hv : isNd D k fl n = false := by unfold isNd; rw [hq, hf]; first | rfl | (rw [Bool.false_and]; done) | (rw [Bool.false_and, Bool.false_and]; done)
      rw [hv] at HA
      have HQ := Lib.hid (show ∀ V : World, Calls Try.prog 50 #[.agg #[.slice p D.n c, .slice q D.m d], .int .i64 k] V fun e w' => e = .returned (.bool true) ∧ Below V.heap.size V w' from fun V => by
        have := isQuarterR_any D p q c d k V hn
        rw [hq] at this
        exact this)
      have HF := Lib.hid (show ∀ V : World, Calls Try.prog 58 #[.int .i64 fl] V fun e w' => e = .returned (.bool false) ∧ V = w' from fun V => by
        have := isFlowR_any fl V
        rw [hf] at this
        exact this)
      clear hv hq hf
      go_enter Try.func34, Try.ntmps34
      go_wp2
      refine quiet_e (by kernel_rfl) (by kernel_rfl) ?_
      repeat (first | go_big_quiet_step ((first | (go_at_call 50; exact quiet_x (HQ.out _)) | (go_at_call 58; exact quiet_s (HF.out _)) | (go_at_call 65; exact quiet_x (HA.out _ (HI.out _))))) | quiet_step ((first | (go_at_call 50; exact quiet_x (HQ.out _)) | (go_at_call 58; exact quiet_s (HF.out _)) | (go_at_call 65; exact quiet_x (HA.out _ (HI.out _))))))
      refine wpQuiet_nil ?_
      intro w6 hw6
      obtain ⟨yq, rfl⟩ := hw6
      go_wp2
      go_ret2
      exact ⟨rfl, bT HB.out yq.b⟩
    | true =>
      cases hg : within n 1 20 with
      | false =>
        have hv : isNd D k fl n = false := by unfold isNd; rw [hq, hf, hg]; first | rfl | (rw [Bool.false_and]; done) | (rw [Bool.false_and, Bool.false_and]; done)
        rw [hv] at HA
        have HQ := Lib.hid (show ∀ V : World, Calls Try.prog 50 #[.agg #[.slice p D.n c, .slice q D.m d], .int .i64 k] V fun e w' => e = .returned (.bool true) ∧ Below V.heap.size V w' from fun V => by
          have := isQuarterR_any D p q c d k V hn
          rw [hq] at this
          exact this)
        have HF := Lib.hid (show ∀ V : World, Calls Try.prog 58 #[.int .i64 fl] V fun e w' => e = .returned (.bool true) ∧ V = w' from fun V => by
          have := isFlowR_any fl V
          rw [hf] at this
          exact this)
        have HG := Lib.hid (show ∀ V : World, Calls Try.prog 57 #[.int .i64 n] V fun e w' => e = .returned (.bool false) ∧ V = w' from fun V => by
          have := isGaugesR_any n V
          rw [hg] at this
          exact this)
        clear hv hq hf hg
        go_enter Try.func34, Try.ntmps34
        go_wp2
        refine quiet_e (by kernel_rfl) (by kernel_rfl) ?_
        repeat (first | go_big_quiet_step ((first | (go_at_call 50; exact quiet_x (HQ.out _)) | (go_at_call 58; exact quiet_s (HF.out _)) | (go_at_call 57; exact quiet_s (HG.out _)) | (go_at_call 65; exact quiet_x (HA.out _ (HI.out _))))) | quiet_step ((first | (go_at_call 50; exact quiet_x (HQ.out _)) | (go_at_call 58; exact quiet_s (HF.out _)) | (go_at_call 57; exact quiet_s (HG.out _)) | (go_at_call 65; exact quiet_x (HA.out _ (HI.out _))))))
        refine wpQuiet_nil ?_
        intro w6 hw6
        obtain ⟨yq, rfl⟩ := hw6
        go_wp2
        go_ret2
        exact ⟨rfl, bT HB.out yq.b⟩
      | true =>
        have hv : isNd D k fl n = true := by unfold isNd; rw [hq, hf, hg]; first | rfl | (rw [Bool.false_and]; done) | (rw [Bool.false_and, Bool.false_and]; done)
        rw [hv] at HA
        have HQ := Lib.hid (show ∀ V : World, Calls Try.prog 50 #[.agg #[.slice p D.n c, .slice q D.m d], .int .i64 k] V fun e w' => e = .returned (.bool true) ∧ Below V.heap.size V w' from fun V => by
          have := isQuarterR_any D p q c d k V hn
          rw [hq] at this
          exact this)
        have HF := Lib.hid (show ∀ V : World, Calls Try.prog 58 #[.int .i64 fl] V fun e w' => e = .returned (.bool true) ∧ V = w' from fun V => by
          have := isFlowR_any fl V
          rw [hf] at this
          exact this)
        have HG := Lib.hid (show ∀ V : World, Calls Try.prog 57 #[.int .i64 n] V fun e w' => e = .returned (.bool true) ∧ V = w' from fun V => by
          have := isGaugesR_any n V
          rw [hg] at this
          exact this)
        clear hv hq hf hg
        go_enter Try.func34, Try.ntmps34
        go_wp2
        refine quiet_e (by kernel_rfl) (by kernel_rfl) ?_
        repeat (first | go_big_quiet_step ((first | (go_at_call 50; exact quiet_x (HQ.out _)) | (go_at_call 58; exact quiet_s (HF.out _)) | (go_at_call 57; exact quiet_s (HG.out _)) | (go_at_call 65; exact quiet_x (HA.out _ (HI.out _))))) | quiet_step ((first | (go_at_call 50; exact quiet_x (HQ.out _)) | (go_at_call 58; exact quiet_s (HF.out _)) | (go_at_call 57; exact quiet_s (HG.out _)) | (go_at_call 65; exact quiet_x (HA.out _ (HI.out _))))))
        refine wpQuiet_nil ?_
        intro w6 hw6
        obtain ⟨yq, rfl⟩ := hw6
        go_wp2
        go_ret2
        exact ⟨rfl, bT HB.out yq.b⟩
set_option maxRecDepth 100000 in
set_option maxHeartbeats 8000000 in
theorem fromR_ok (D : Bx) (p q : Option Addr) (c d A G : Nat) (w : World) (hok : D.ok = true) (hA : A < D.n) (hG : 0 < G ∧ G ≤ 20) (hi : BxIn w w.heap.size D p q) :
    Calls Try.prog 29 #[.agg #[.slice p D.n c, .slice q D.m d], .int .i64 (A : Int), .int .i64 (G : Int)] w fun e w' => e = .returned (.tuple #[.int .i64 (onI (fsN (hasB D A G) 41)), .int .i64 (noneE (fsN (hasB D A G) 41).isSome)]) ∧ Below w.heap.size w w' := by
  obtain ⟨w1, x, hw1, hb1, hz1, F0, F1⟩ := box_bx w p q D.n D.m c d
  have HB := Lib.hid hb1
  have HI : Hid (∀ x : Ext w1, BxIn x.v x.v.heap.size D p q) := fun x => (hi.bel hb1).bel x.b
  clear hb1 hz1 hi
  have hn5 := (Bx.ok_parts hok).1
  have hm5 : D.m ≤ 5 := by have := (Bx.ok_parts hok).2.1; omega
  have hg : within (G : Int) 1 20 = true := within_tt (by omega) (by omega)
  have hq : isQ D (A : Int) = true := isQ_iff.2 ⟨by omega, by omega⟩
  have HG := Lib.hid (show ∀ V : World, Calls Try.prog 57 #[.int .i64 (G : Int)] V fun e w' => e = .returned (.bool true) ∧ V = w' from fun V => by
    have := isGaugesR_any (G : Int) V
    rw [hg] at this
    exact this)
  have HQ := Lib.hid (show ∀ V : World, Calls Try.prog 50 #[.agg #[.slice p D.n c, .slice q D.m d], .int .i64 (A : Int)] V fun e w' => e = .returned (.bool true) ∧ Below V.heap.size V w' from fun V => by
    have := isQuarterR_any D p q c d (A : Int) V (by omega)
    rw [hq] at this
    exact this)
  have HCE := Lib.hid (chkE_ok.2 ⟨hok, rfl⟩)
  have HOK := Lib.hid hok
  clear hg hq hok
  go_enter Try.func29, Try.ntmps29
  go_wp2
  refine quiet_e (by kernel_rfl) (by kernel_rfl) ?_
  repeat (first | go_big_quiet_step ((first | (go_at_call 50; exact quiet_x (HQ.out _)) | (go_at_call 57; exact quiet_s (HG.out _)) | (go_at_call 65; exact quiet_x (ask_is HCE.out (by omega) (by omega) (HI.out _))))) | quiet_step ((first | (go_at_call 50; exact quiet_x (HQ.out _)) | (go_at_call 57; exact quiet_s (HG.out _)) | (go_at_call 65; exact quiet_x (ask_is HCE.out (by omega) (by omega) (HI.out _))))))
  refine wpQuiet_nil ?_
  intro w6 hw6
  obtain ⟨yq, rfl⟩ := hw6
  go_wp2
  clear hw1
  go_loopw [9] (fun i wr => ∃ k : Nat, i = .int .i64 (k : Int) ∧ k ≤ 41 ∧ fsN (hasB D A G) k = none ∧ ∃ z : Ext w1, wr = z.v) (fun i _ => 41 - (intOf i).toNat)
  case atStart => exact ⟨0, rfl, by omega, rfl, yq, rfl⟩
  case round =>
    obtain ⟨k, rfl, hk, hfs, z, rfl⟩ := hrel
    have HFS := Lib.hid hfs; clear hfs
    by_cases hlt : k < 41
    · have hkm : (k : Int) ≤ 40 := by omega
      have hAm : (A : Int) < (D.n : Int) := by omega
      go_wp2_with fail
      refine (gaugesOf_any D p q c d k _ HOK.out (by omega) (HI.out _)).mono ?_
      rintro e w' ⟨ya, ca, rfl, hca⟩
      obtain ⟨za, hza⟩ : ∃ zz : Ext w1, w' = zz.v := ⟨⟨_, bT z.b hca.below⟩, rfl⟩
      have hna := hca.num
      rw [hza] at hna ⊢
      obtain ⟨g0, go, rfl, _, hc0⟩ := hna (by omega)
      have E0 : za.v.cell? ⟨g0, go + A, none⟩ = some (.int .i64 (gv D k A)) := hc0 A hA
      clear hca hna hza hc0
      cases hpb : hasB D A G k with
      | true =>
        have HR := Lib.hid (show fsN (hasB D A G) 41 = some k from fsN_hit HFS.out hpb hlt)
        have jg : decide ((G : Int) ≤ gv D k A) = true := hpb
        clear hpb
        go_wp2
        go_ret2
        exact ⟨by rw [HR.out]; rfl, bT HB.out za.b⟩
      | false =>
        have HR := Lib.hid (show fsN (hasB D A G) (k + 1) = none from fsN_miss HFS.out hpb)
        have jg : decide ((G : Int) ≤ gv D k A) = false := hpb
        clear hpb
        go_wp2
        go_roundw
        case rel => exact ⟨k + 1, by go_num, hlt, HR.out, za, rfl⟩
        case measure => first | (simp [intOf]; done) | (simp [intOf]; omega)
    · have HR := Lib.hid (show fsN (hasB D A G) 41 = none from by rw [← show k = 41 by omega]; exact HFS.out)
      have j : decide ((k : Int) ≤ 40) = false := by simp; omega
      have j2 : ¬ (k : Int) ≤ 40 := by omega
      go_wp2
      go_ret2
      exact ⟨by rw [HR.out]; rfl, bT HB.out z.b⟩
set_option maxRecDepth 100000 in
set_option maxHeartbeats 8000000 in
theorem needR_ok (D : Bx) (p q : Option Addr) (c d A F G : Nat) (w : World) (hok : D.ok = true) (hA : A < D.n) (hF : F ≤ 40) (hG : 0 < G ∧ G ≤ 20) (hi : BxIn w w.heap.size D p q) :
    Calls Try.prog 34 #[.agg #[.slice p D.n c, .slice q D.m d], .int .i64 (A : Int), .int .i64 (F : Int), .int .i64 (G : Int)] w fun e w' => e = .returned (.tuple #[.int .i64 (onI (fsN (needB D A F G) 21)), .int .i64 (noneE (fsN (needB D A F G) 21).isSome)]) ∧ Below w.heap.size w w' := by
  obtain ⟨w1, x, hw1, hb1, hz1, F0, F1⟩ := box_bx w p q D.n D.m c d
  have HB := Lib.hid hb1
  have HI : Hid (∀ x : Ext w1, BxIn x.v x.v.heap.size D p q) := fun x => (hi.bel hb1).bel x.b
  clear hb1 hz1 hi
  have hn5 := (Bx.ok_parts hok).1
  have hmn := (Bx.ok_parts hok).2.1
  have hm5 : D.m ≤ 5 := by omega
  have hg : within (G : Int) 1 20 = true := within_tt (by omega) (by omega)
  have hf : within (F : Int) 0 40 = true := within_tt (by omega) (by omega)
  have hq : isQ D (A : Int) = true := isQ_iff.2 ⟨by omega, by omega⟩
  have HG := Lib.hid (show ∀ V : World, Calls Try.prog 57 #[.int .i64 (G : Int)] V fun e w' => e = .returned (.bool true) ∧ V = w' from fun V => by
    have := isGaugesR_any (G : Int) V
    rw [hg] at this
    exact this)
  have HF := Lib.hid (show ∀ V : World, Calls Try.prog 58 #[.int .i64 (F : Int)] V fun e w' => e = .returned (.bool true) ∧ V = w' from fun V => by
    have := isFlowR_any (F : Int) V
    rw [hf] at this
    exact this)
  have HQ := Lib.hid (show ∀ V : World, Calls Try.prog 50 #[.agg #[.slice p D.n c, .slice q D.m d], .int .i64 (A : Int)] V fun e w' => e = .returned (.bool true) ∧ Below V.heap.size V w' from fun V => by
    have := isQuarterR_any D p q c d (A : Int) V (by omega)
    rw [hq] at this
    exact this)
  have HCE := Lib.hid (chkE_ok.2 ⟨hok, rfl⟩)
  have HOK := Lib.hid hok
  have HMN := Lib.hid hmn
  clear hg hq hok hf hmn
  go_enter Try.func34, Try.ntmps34
  go_wp2
  refine quiet_e (by kernel_rfl) (by kernel_rfl) ?_
  repeat (first | go_big_quiet_step ((first | (go_at_call 50; exact quiet_x (HQ.out _)) | (go_at_call 58; exact quiet_s (HF.out _)) | (go_at_call 57; exact quiet_s (HG.out _)) | (go_at_call 65; exact quiet_x (ask_is HCE.out (by omega) (by omega) (HI.out _))))) | quiet_step ((first | (go_at_call 50; exact quiet_x (HQ.out _)) | (go_at_call 58; exact quiet_s (HF.out _)) | (go_at_call 57; exact quiet_s (HG.out _)) | (go_at_call 65; exact quiet_x (ask_is HCE.out (by omega) (by omega) (HI.out _))))))
  refine wpQuiet_nil ?_
  intro w6 hw6
  obtain ⟨yq, rfl⟩ := hw6
  go_wp2
  clear hw1
  go_loopw [11] (fun i wr => ∃ k : Nat, i = .int .i64 (k : Int) ∧ k ≤ 21 ∧ fsN (needB D A F G) k = none ∧ ∃ z : Ext w1, wr = z.v) (fun i _ => 21 - (intOf i).toNat)
  case atStart => exact ⟨0, rfl, by omega, rfl, yq, rfl⟩
  case round =>
    obtain ⟨k, rfl, hk, hfs, z, rfl⟩ := hrel
    have HFS := Lib.hid hfs; clear hfs
    by_cases hlt : k < 21
    · have hkm : (k : Int) ≤ 20 := by omega
      have hAm : (A : Int) < (D.n : Int) := by omega
      have hoks := Bx.setSh_ok HOK.out A (v := (k : Int)) ⟨by omega, by omega⟩
      have HGO := Lib.hid (show ∀ (V : World) (p' q' : Option Addr) (c' d' : Nat), BxIn V V.heap.size (D.setSh A (k : Int)) p' q' → Calls Try.prog 66 #[.agg #[.slice p' D.n c', .slice q' D.m d'], .int .i64 (F : Int)] V fun e w' => ∃ y c', e = .returned (.slice y D.n c') ∧ New V w' D.n (gv (D.setSh A (k : Int)) F) y from
        fun V p' q' c' d' h => gaugesOf_any (D.setSh A (k : Int)) p' q' c' d' F V hoks hF h)
      clear hoks
      go_wp2_with fail
      refine (shared_any D p q c d A (k : Int) _ (by omega) HMN.out hA (HI.out _)).mono ?_
      rintro e wv ⟨p', c', q', d', rfl, hbv, hin⟩
      obtain ⟨zv, rfl⟩ : ∃ zz : Ext w1, wv = zz.v := ⟨⟨_, bT z.b hbv⟩, rfl⟩
      have HIN := Lib.hid hin
      clear hbv hin
      go_wp2_with fail
      refine (HGO.out _ p' q' c' d' HIN.out).mono ?_
      rintro e w' ⟨ya, ca, rfl, hca⟩
      obtain ⟨za, hza⟩ : ∃ zz : Ext w1, w' = zz.v := ⟨⟨_, bT zv.b hca.below⟩, rfl⟩
      have hna := hca.num
      rw [hza] at hna ⊢
      obtain ⟨g0, go, rfl, _, hc0⟩ := hna (by omega)
      have E0 : za.v.cell? ⟨g0, go + A, none⟩ = some (.int .i64 (gv (D.setSh A (k : Int)) F A)) := hc0 A hA
      clear hca hna hza hc0
      cases hpb : needB D A F G k with
      | true =>
        have HR := Lib.hid (show fsN (needB D A F G) 21 = some k from fsN_hit HFS.out hpb hlt)
        have jg : decide ((G : Int) ≤ gv (D.setSh A (k : Int)) F A) = true := hpb
        clear hpb
        go_wp2
        go_ret2
        exact ⟨by rw [HR.out]; rfl, bT HB.out za.b⟩
      | false =>
        have HR := Lib.hid (show fsN (needB D A F G) (k + 1) = none from fsN_miss HFS.out hpb)
        have jg : decide ((G : Int) ≤ gv (D.setSh A (k : Int)) F A) = false := hpb
        clear hpb
        go_wp2
        go_roundw
        case rel => exact ⟨k + 1, by go_num, hlt, HR.out, za, rfl⟩
        case measure => first | (simp [intOf]; done) | (simp [intOf]; omega)
    · have HR := Lib.hid (show fsN (needB D A F G) 21 = none from by rw [← show k = 21 by omega]; exact HFS.out)
      have j : decide ((k : Int) ≤ 20) = false := by simp; omega
      have j2 : ¬ (k : Int) ≤ 20 := by omega
      go_wp2
      go_ret2
      exact ⟨by rw [HR.out]; rfl, bT HB.out z.b⟩
theorem fromP_any (D : Bx) (p q : Option Addr) (c d : Nat) (k n : Int) (w : World) (hn : D.n ≤ 40) (hm : D.m ≤ 40) (hi : BxIn w w.heap.size D p q) :
    Calls Try.prog 28 #[.agg #[.slice p D.n c, .slice q D.m d], .int .i64 k, .int .i64 n] w fun e w' => e = .returned (.tuple #[.int .i64 (frV D k n), .int .i64 (frW D k n)]) ∧ Below w.heap.size w w' := by
  by_cases h : chkE D.ok (isFr D k n) = 0
  · rw [show frV D k n = onI (fsN (hasB D k.toNat n.toNat) 41) from if_pos h, show frW D k n = noneE (fsN (hasB D k.toNat n.toNat) 41).isSome from if_pos h]
    obtain ⟨hok, A, G, rfl, rfl, hA, hG⟩ := fr_parts h
    exact fromP_ok D p q c d A G w hok hA hG hi
  · rw [show frV D k n = 0 from if_neg h, show frW D k n = chkE D.ok (isFr D k n) from if_neg h]
    exact fromP_err D p q c d k n w hn hm hi h
theorem needP_any (D : Bx) (p q : Option Addr) (c d : Nat) (k fl n : Int) (w : World) (hn : D.n ≤ 40) (hm : D.m ≤ 40) (hi : BxIn w w.heap.size D p q) :
    Calls Try.prog 33 #[.agg #[.slice p D.n c, .slice q D.m d], .int .i64 k, .int .i64 fl, .int .i64 n] w fun e w' => e = .returned (.tuple #[.int .i64 (ndV D k fl n), .int .i64 (ndW D k fl n)]) ∧ Below w.heap.size w w' := by
  by_cases h : chkE D.ok (isNd D k fl n) = 0
  · rw [show ndV D k fl n = onI (fsN (needB D k.toNat fl.toNat n.toNat) 21) from if_pos h, show ndW D k fl n = noneE (fsN (needB D k.toNat fl.toNat n.toNat) 21).isSome from if_pos h]
    obtain ⟨hok, A, F, G, rfl, rfl, rfl, hA, hF, hG⟩ := nd_parts h
    exact needP_ok D p q c d A F G w hok hA hF hG hi
  · rw [show ndV D k fl n = 0 from if_neg h, show ndW D k fl n = chkE D.ok (isNd D k fl n) from if_neg h]
    exact needP_err D p q c d k fl n w hn hm hi h
theorem fromR_any (D : Bx) (p q : Option Addr) (c d : Nat) (k n : Int) (w : World) (hn : D.n ≤ 40) (hm : D.m ≤ 40) (hi : BxIn w w.heap.size D p q) :
    Calls Try.prog 29 #[.agg #[.slice p D.n c, .slice q D.m d], .int .i64 k, .int .i64 n] w fun e w' => e = .returned (.tuple #[.int .i64 (frV D k n), .int .i64 (frW D k n)]) ∧ Below w.heap.size w w' := by
  by_cases h : chkE D.ok (isFr D k n) = 0
  · rw [show frV D k n = onI (fsN (hasB D k.toNat n.toNat) 41) from if_pos h, show frW D k n = noneE (fsN (hasB D k.toNat n.toNat) 41).isSome from if_pos h]
    obtain ⟨hok, A, G, rfl, rfl, hA, hG⟩ := fr_parts h
    exact fromR_ok D p q c d A G w hok hA hG hi
  · rw [show frV D k n = 0 from if_neg h, show frW D k n = chkE D.ok (isFr D k n) from if_neg h]
    exact fromR_err D p q c d k n w hn hm hi h
theorem needR_any (D : Bx) (p q : Option Addr) (c d : Nat) (k fl n : Int) (w : World) (hn : D.n ≤ 40) (hm : D.m ≤ 40) (hi : BxIn w w.heap.size D p q) :
    Calls Try.prog 34 #[.agg #[.slice p D.n c, .slice q D.m d], .int .i64 k, .int .i64 fl, .int .i64 n] w fun e w' => e = .returned (.tuple #[.int .i64 (ndV D k fl n), .int .i64 (ndW D k fl n)]) ∧ Below w.heap.size w w' := by
  by_cases h : chkE D.ok (isNd D k fl n) = 0
  · rw [show ndV D k fl n = onI (fsN (needB D k.toNat fl.toNat n.toNat) 21) from if_pos h, show ndW D k fl n = noneE (fsN (needB D k.toNat fl.toNat n.toNat) 21).isSome from if_pos h]
    obtain ⟨hok, A, F, G, rfl, rfl, rfl, hA, hF, hG⟩ := nd_parts h
    exact needR_ok D p q c d A F G w hok hA hF hG hi
  · rw [show ndV D k fl n = 0 from if_neg h, show ndW D k fl n = chkE D.ok (isNd D k fl n) from if_neg h]
    exact needR_err D p q c d k fl n w hn hm hi h


set_option maxRecDepth 100000 in
set_option maxHeartbeats 4000000 in
theorem sameSpans_any (l : Nat) (f h : Nat → Int) (p q : Option Addr) (c d : Nat) (w : World) (hl : l ≤ 1000) (h1 : PairIn w w.heap.size l f h p) (h2 : PairIn w w.heap.size l f h q) :
    Calls Try.prog 32 #[.slice p l c, .slice q l d] w fun e w' => e = .returned (.bool true) ∧ Below w.heap.size w w' := by
  obtain ⟨x, hx⟩ := rebase w
  have H1 : Hid (∀ z : Ext w, PairIn z.v z.v.heap.size l f h p) := fun z => h1.bel z.b
  have H2 : Hid (∀ z : Ext w, PairIn z.v z.v.heap.size l f h q) := fun z => h2.bel z.b
  have d1 : ((l : Int) != (l : Int)) = false := by simp
  have HG : Hid (∀ w', (∃ z : Ext w, w' = z.v) → Below w.heap.size w w') := fun w' ⟨z, h⟩ => h ▸ z.b
  clear h1 h2
  go_enter Try.func32, Try.ntmps32
  go_wp2
  go_loopw [5] (fun i wr => ∃ k : Nat, i = .int .i64 k ∧ k ≤ l ∧ ∃ x : Ext w, wr = x.v) (fun i _ => l - (intOf i).toNat)
  case atStart => exact ⟨0, rfl, Nat.zero_le _, x, by first | exact hx | rfl⟩
  case round =>
    clear hx x
    obtain ⟨k, rfl, hk, y, rfl⟩ := hrel
    by_cases hlt : k < l
    · obtain ⟨b1, rfl, _, hc1⟩ := H1.out y (by omega)
      obtain ⟨b2, rfl, _, hc2⟩ := H2.out y (by omega)
      have cell : ∀ (g : Nat), (∀ z : Ext w, PairIn z.v z.v.heap.size l f h (some ⟨g, 0, none⟩)) → ∀ z : Ext w, z.v.cell? ⟨g, k * 2, none⟩ = some (.int .i64 (f k)) ∧ z.v.cell? ⟨g, k * 2 + 1, none⟩ = some (.int .i64 (h k)) := fun g H z => by
        obtain ⟨g', e, _, hc⟩ := (H z) (by omega)
        have e2 : g = g' := by simpa using e
        subst e2
        exact hc k hlt
      have C1 : ∀ z : Ext w, z.v.cell? ⟨b1, k * 2, none⟩ = some (.int .i64 (f k)) := fun z => (cell b1 H1.out z).1
      have C2 : ∀ z : Ext w, z.v.cell? ⟨b1, k * 2 + 1, none⟩ = some (.int .i64 (h k)) := fun z => (cell b1 H1.out z).2
      have C3 : ∀ z : Ext w, z.v.cell? ⟨b2, k * 2, none⟩ = some (.int .i64 (f k)) := fun z => (cell b2 H2.out z).1
      have C4 : ∀ z : Ext w, z.v.cell? ⟨b2, k * 2 + 1, none⟩ = some (.int .i64 (h k)) := fun z => (cell b2 H2.out z).2
      have j : decide ((k : Int) < (l : Int)) = true := by simp; omega
      have j2 : (k : Int) < (l : Int) := by omega
      have hnp := fun w => neq_span (f k) (h k) w
      clear cell hc1 hc2
      go_wp2
      refine quiet_e (by kernel_rfl) (by kernel_rfl) ?_
      repeat (first | go_big_quiet_step (fail) | quiet_step (fail))
      refine wpQuiet_nil ?_
      intro w6 hw6
      obtain ⟨u2, rfl⟩ := hw6
      go_wp2
      go_roundw
      case rel => exact ⟨k + 1, by go_num, hlt, u2, rfl⟩
      case measure => first | (simp [intOf]; done) | (simp [intOf]; omega)
    · have j : decide ((k : Int) < (l : Int)) = false := by simp; omega
      go_wp2
      go_ret
      exact ⟨rfl, HG.out _ ⟨y, rfl⟩⟩
def isBt (lo hi : Int) : Bool := (within lo 0 40 && within hi 0 40) && decide (lo ≤ hi)
def btN (D : Bx) (lo hi : Int) : Nat := if chkE D.ok (isBt lo hi) = 0 then D.n else 0
theorem bt_parts {D : Bx} {lo hi : Int} (h : chkE D.ok (isBt lo hi) = 0) : D.ok = true ∧ ∃ F G : Nat, lo = (F : Int) ∧ hi = (G : Int) ∧ F ≤ G ∧ G ≤ 40 := by
  obtain ⟨h1, h2⟩ := chk_split h
  simp only [isBt, Bool.and_eq_true, decide_eq_true_eq] at h2
  have := within_iff.1 h2.1.1
  have := within_iff.1 h2.1.2
  exact ⟨h1, lo.toNat, hi.toNat, by omega, by omega, by omega, by omega⟩
theorem allW_pair (a b : Int) : allW (fun i => if i = 0 then a else b) 0 40 2 = (within a 0 40 && within b 0 40) := by simp [allW, allN]
set_option maxRecDepth 100000 in
set_option maxHeartbeats 4000000 in
theorem betweenP_err (D : Bx) (p q : Option Addr) (c d : Nat) (lo hi' : Int) (w : World) (hn : D.n ≤ 40) (hm : D.m ≤ 40) (hi : BxIn w w.heap.size D p q) (he : chkE D.ok (isBt lo hi') ≠ 0) :
    Calls Try.prog 30 #[.agg #[.slice p D.n c, .slice q D.m d], .int .i64 lo, .int .i64 hi'] w fun e w' => e = .returned (.tuple #[.slice none 0 0, .int .i64 (chkE D.ok (isBt lo hi'))]) ∧ Below w.heap.size w w' := by
  obtain ⟨w1, x, hw1, hb1, hz1, F0, F1⟩ := box_bx w p q D.n D.m c d
  have HB := Lib.hid hb1
  have HI : Hid (∀ x : Ext w1, BxIn x.v x.v.heap.size D p q) := fun x => (hi.bel hb1).bel x.b
  clear hb1 hz1 hi
  have j0 : (chkE D.ok (isBt lo hi') != 0) = true := by simpa using he
  have HA := Lib.hid (show ∀ V : World, BxIn V V.heap.size D p q → Calls Try.prog 60 #[.agg #[.slice p D.n c, .slice q D.m d], .bool (isBt lo hi')] V fun e w' => e = .returned (.int .i64 (chkE D.ok (isBt lo hi'))) ∧ Below V.heap.size V w' from fun V h => check_is rfl hn hm h)
  generalize chkE D.ok (isBt lo hi') = ev at j0 HA ⊢
  clear he
  cases hf : (within lo 0 40 && within hi' 0 40) with
  | false =>
    have hv : isBt lo hi' = false := by unfold isBt; rw [hf]; first | rfl | (rw [Bool.false_and]; done)
    rw [hv] at HA
    have HV := Lib.hid ((allW_pair lo hi').trans hf)
    clear hv hf
    go_enter Try.func30, Try.ntmps30
    go_wp2
    refine wp_region_lastE 11 (by kernel_rfl) rfl (fun yr => ?_)
    refine wpAnyG_take (i := 0) (v := ?_) (by kernel_rfl) rfl (by kernel_rfl) (by kernel_rfl) (by kernel_rfl) (fun _ _ _ h => h) (Or.inl ⟨by rfl, ?_⟩) ⟨_, rfl⟩ ?_
    rotate_left
    · rintro wS ⟨yS, rfl⟩
      go_simp
      try (with_reducible rfl)
    try simp only [Act.put, List.setIfInBounds_toArray, List.set_cons_zero, List.set_cons_succ]
    refine wpAnyG_take (i := 1) (v := ?_) (by kernel_rfl) rfl (by kernel_rfl) (by kernel_rfl) (by kernel_rfl) (fun _ _ _ h => h) (Or.inl ⟨by rfl, ?_⟩) ⟨_, rfl⟩ ?_
    rotate_left
    · rintro wS ⟨yS, rfl⟩
      go_simp
      try (with_reducible rfl)
    try simp only [Act.put, List.setIfInBounds_toArray, List.set_cons_zero, List.set_cons_succ]
    refine wpAnyG_take (i := 2) (v := ?_) (by kernel_rfl) rfl (by kernel_rfl) (by kernel_rfl) (by kernel_rfl) (fun _ _ _ h => h) (Or.inl ⟨by rfl, ?_⟩) ⟨_, rfl⟩ ?_
    rotate_left
    · rintro wS ⟨yS, rfl⟩
      go_simp
      try (with_reducible rfl)
    try simp only [Act.put, List.setIfInBounds_toArray, List.set_cons_zero, List.set_cons_succ]
    refine wpAnyG_one (i := 3) (by kernel_rfl) (by decide) (wpOp_plain rfl rfl ?_)
    go_simp
    obtain ⟨ya, hya, hna⟩ := two_flows (x := yr) (a := lo) (b := hi') (t := 3)
    have HN := Lib.hid hna; clear hna
    rw [hya]; clear hya
    refine ⟨⟨_, rfl⟩, ?_⟩
    try simp only [Act.put, List.setIfInBounds_toArray, List.set_cons_zero, List.set_cons_succ]
    refine wpAnyG_one (i := 4) (by kernel_rfl) (by decide) (wpOp_plain rfl rfl ?_)
    go_simp
    go_at_call 62
    refine (areFlows_any 2 2 _ _ _ (by omega) HN.out).mono ?_
    rintro e w' ⟨rfl, rfl⟩
    rw [HV.out]
    refine ⟨⟨_, rfl⟩, ?_⟩
    try simp only [Act.put, List.setIfInBounds_toArray, List.set_cons_zero, List.set_cons_succ]
    refine wpAnyG_take (i := 5) (v := ?_) (by kernel_rfl) rfl (by kernel_rfl) (by kernel_rfl) (by kernel_rfl) (fun _ _ _ h => h) (Or.inl ⟨by rfl, ?_⟩) ⟨_, rfl⟩ ?_
    rotate_left
    · rintro wS ⟨yS, rfl⟩
      go_simp
      try (with_reducible rfl)
    try simp only [Act.put, List.setIfInBounds_toArray, List.set_cons_zero, List.set_cons_succ]
    refine wpAnyG_take (i := 6) (v := undef) (by kernel_rfl) rfl (by kernel_rfl) (by kernel_rfl) (by kernel_rfl) (fun _ _ _ h => h) (Or.inr ⟨by rfl, rfl⟩) ⟨_, rfl⟩ ?_
    try simp only [Act.put, List.setIfInBounds_toArray, List.set_cons_zero, List.set_cons_succ]
    refine wpAnyG_take (i := 7) (v := undef) (by kernel_rfl) rfl (by kernel_rfl) (by kernel_rfl) (by kernel_rfl) (fun _ _ _ h => h) (Or.inr ⟨by rfl, rfl⟩) ⟨_, rfl⟩ ?_
    try simp only [Act.put, List.setIfInBounds_toArray, List.set_cons_zero, List.set_cons_succ]
    refine wpAnyG_take (i := 8) (v := undef) (by kernel_rfl) rfl (by kernel_rfl) (by kernel_rfl) (by kernel_rfl) (fun _ _ _ h => h) (Or.inr ⟨by rfl, rfl⟩) ⟨_, rfl⟩ ?_
    try simp only [Act.put, List.setIfInBounds_toArray, List.set_cons_zero, List.set_cons_succ]
    refine wpAnyG_take (i := 9) (v := ?_) (by kernel_rfl) rfl (by kernel_rfl) (by kernel_rfl) (by kernel_rfl) (fun _ _ _ h => h) (Or.inl ⟨by rfl, ?_⟩) ⟨_, rfl⟩ ?_
    rotate_left
    · rintro wS ⟨yS, rfl⟩
      go_simp
      try (with_reducible rfl)
    try simp only [Act.put, List.setIfInBounds_toArray, List.set_cons_zero, List.set_cons_succ]
    refine wpAnyG_one (i := 10) (by kernel_rfl) (by decide) (wpOp_plain rfl rfl ?_)
    go_simp
    go_at_call 60
    refine (quiet_x (HA.out _ (HI.out _))).mono ?_
    rintro e w' ⟨rfl, yc, rfl⟩
    refine ⟨⟨_, rfl⟩, ?_⟩
    try simp only [Act.put, List.setIfInBounds_toArray, List.set_cons_zero, List.set_cons_succ]
    refine wpAnyG_done (by kernel_rfl) (by kernel_rfl) (wpOp_plain rfl rfl ?_)
    go_simp
    go_wp2
    go_ret2
    exact ⟨rfl, bT HB.out yc.b⟩
  | true =>
    cases hl : decide (lo ≤ hi') with
    | false =>
      have hv : isBt lo hi' = false := by unfold isBt; rw [hf, hl]; first | rfl | (rw [Bool.false_and]; done)
      rw [hv] at HA
      have HV := Lib.hid ((allW_pair lo hi').trans hf)
      clear hv hf
      go_enter Try.func30, Try.ntmps30
      go_wp2
      refine wp_region_lastE 11 (by kernel_rfl) rfl (fun yr => ?_)
      refine wpAnyG_take (i := 0) (v := ?_) (by kernel_rfl) rfl (by kernel_rfl) (by kernel_rfl) (by kernel_rfl) (fun _ _ _ h => h) (Or.inl ⟨by rfl, ?_⟩) ⟨_, rfl⟩ ?_
      rotate_left
      · rintro wS ⟨yS, rfl⟩
        go_simp
        try (with_reducible rfl)
      try simp only [Act.put, List.setIfInBounds_toArray, List.set_cons_zero, List.set_cons_succ]
      refine wpAnyG_take (i := 1) (v := ?_) (by kernel_rfl) rfl (by kernel_rfl) (by kernel_rfl) (by kernel_rfl) (fun _ _ _ h => h) (Or.inl ⟨by rfl, ?_⟩) ⟨_, rfl⟩ ?_
      rotate_left
      · rintro wS ⟨yS, rfl⟩
        go_simp
        try (with_reducible rfl)
      try simp only [Act.put, List.setIfInBounds_toArray, List.set_cons_zero, List.set_cons_succ]
      refine wpAnyG_take (i := 2) (v := ?_) (by kernel_rfl) rfl (by kernel_rfl) (by kernel_rfl) (by kernel_rfl) (fun _ _ _ h => h) (Or.inl ⟨by rfl, ?_⟩) ⟨_, rfl⟩ ?_
      rotate_left
      · rintro wS ⟨yS, rfl⟩
        go_simp
        try (with_reducible rfl)
      try simp only [Act.put, List.setIfInBounds_toArray, List.set_cons_zero, List.set_cons_succ]
      refine wpAnyG_one (i := 3) (by kernel_rfl) (by decide) (wpOp_plain rfl rfl ?_)
      go_simp
      obtain ⟨ya, hya, hna⟩ := two_flows (x := yr) (a := lo) (b := hi') (t := 3)
      have HN := Lib.hid hna; clear hna
      rw [hya]; clear hya
      refine ⟨⟨_, rfl⟩, ?_⟩
      try simp only [Act.put, List.setIfInBounds_toArray, List.set_cons_zero, List.set_cons_succ]
      refine wpAnyG_one (i := 4) (by kernel_rfl) (by decide) (wpOp_plain rfl rfl ?_)
      go_simp
      go_at_call 62
      refine (areFlows_any 2 2 _ _ _ (by omega) HN.out).mono ?_
      rintro e w' ⟨rfl, rfl⟩
      rw [HV.out]
      refine ⟨⟨_, rfl⟩, ?_⟩
      try simp only [Act.put, List.setIfInBounds_toArray, List.set_cons_zero, List.set_cons_succ]
      refine wpAnyG_take (i := 5) (v := ?_) (by kernel_rfl) rfl (by kernel_rfl) (by kernel_rfl) (by kernel_rfl) (fun _ _ _ h => h) (Or.inl ⟨by rfl, ?_⟩) ⟨_, rfl⟩ ?_
      rotate_left
      · rintro wS ⟨yS, rfl⟩
        go_simp
        try (with_reducible rfl)
      try simp only [Act.put, List.setIfInBounds_toArray, List.set_cons_zero, List.set_cons_succ]
      refine wpAnyG_take (i := 6) (v := ?_) (by kernel_rfl) rfl (by kernel_rfl) (by kernel_rfl) (by kernel_rfl) (fun _ _ _ h => h) (Or.inl ⟨by rfl, ?_⟩) ⟨_, rfl⟩ ?_
      rotate_left
      · rintro wS ⟨yS, rfl⟩
        go_simp
        try (with_reducible rfl)
      try simp only [Act.put, List.setIfInBounds_toArray, List.set_cons_zero, List.set_cons_succ]
      refine wpAnyG_take (i := 7) (v := ?_) (by kernel_rfl) rfl (by kernel_rfl) (by kernel_rfl) (by kernel_rfl) (fun _ _ _ h => h) (Or.inl ⟨by rfl, ?_⟩) ⟨_, rfl⟩ ?_
      rotate_left
      · rintro wS ⟨yS, rfl⟩
        go_simp
        try (with_reducible rfl)
      try simp only [Act.put, List.setIfInBounds_toArray, List.set_cons_zero, List.set_cons_succ]
      refine wpAnyG_take (i := 8) (v := ?_) (by kernel_rfl) rfl (by kernel_rfl) (by kernel_rfl) (by kernel_rfl) (fun _ _ _ h => h) (Or.inl ⟨by rfl, ?_⟩) ⟨_, rfl⟩ ?_
      rotate_left
      · rintro wS ⟨yS, rfl⟩
        go_simp
        try (with_reducible rfl)
      try simp only [Act.put, List.setIfInBounds_toArray, List.set_cons_zero, List.set_cons_succ]
      refine wpAnyG_take (i := 9) (v := ?_) (by kernel_rfl) rfl (by kernel_rfl) (by kernel_rfl) (by kernel_rfl) (fun _ _ _ h => h) (Or.inl ⟨by rfl, ?_⟩) ⟨_, rfl⟩ ?_
      rotate_left
      · rintro wS ⟨yS, rfl⟩
        go_simp
        try (with_reducible rfl)
      try simp only [Act.put, List.setIfInBounds_toArray, List.set_cons_zero, List.set_cons_succ]
      refine wpAnyG_one (i := 10) (by kernel_rfl) (by decide) (wpOp_plain rfl rfl ?_)
      go_simp
      go_at_call 60
      refine (quiet_x (HA.out _ (HI.out _))).mono ?_
      rintro e w' ⟨rfl, yc, rfl⟩
      refine ⟨⟨_, rfl⟩, ?_⟩
      try simp only [Act.put, List.setIfInBounds_toArray, List.set_cons_zero, List.set_cons_succ]
      refine wpAnyG_done (by kernel_rfl) (by kernel_rfl) (wpOp_plain rfl rfl ?_)
      go_simp
      go_wp2
      go_ret2
      exact ⟨rfl, bT HB.out yc.b⟩
    | true =>
      have hv : isBt lo hi' = true := by unfold isBt; rw [hf, hl]; first | rfl | (rw [Bool.false_and]; done)
      rw [hv] at HA
      have HV := Lib.hid ((allW_pair lo hi').trans hf)
      clear hv hf
      go_enter Try.func30, Try.ntmps30
      go_wp2
      refine wp_region_lastE 11 (by kernel_rfl) rfl (fun yr => ?_)
      refine wpAnyG_take (i := 0) (v := ?_) (by kernel_rfl) rfl (by kernel_rfl) (by kernel_rfl) (by kernel_rfl) (fun _ _ _ h => h) (Or.inl ⟨by rfl, ?_⟩) ⟨_, rfl⟩ ?_
      rotate_left
      · rintro wS ⟨yS, rfl⟩
        go_simp
        try (with_reducible rfl)
      try simp only [Act.put, List.setIfInBounds_toArray, List.set_cons_zero, List.set_cons_succ]
      refine wpAnyG_take (i := 1) (v := ?_) (by kernel_rfl) rfl (by kernel_rfl) (by kernel_rfl) (by kernel_rfl) (fun _ _ _ h => h) (Or.inl ⟨by rfl, ?_⟩) ⟨_, rfl⟩ ?_
      rotate_left
      · rintro wS ⟨yS, rfl⟩
        go_simp
        try (with_reducible rfl)
      try simp only [Act.put, List.setIfInBounds_toArray, List.set_cons_zero, List.set_cons_succ]
      refine wpAnyG_take (i := 2) (v := ?_) (by kernel_rfl) rfl (by kernel_rfl) (by kernel_rfl) (by kernel_rfl) (fun _ _ _ h => h) (Or.inl ⟨by rfl, ?_⟩) ⟨_, rfl⟩ ?_
      rotate_left
      · rintro wS ⟨yS, rfl⟩
        go_simp
        try (with_reducible rfl)
      try simp only [Act.put, List.setIfInBounds_toArray, List.set_cons_zero, List.set_cons_succ]
      refine wpAnyG_one (i := 3) (by kernel_rfl) (by decide) (wpOp_plain rfl rfl ?_)
      go_simp
      obtain ⟨ya, hya, hna⟩ := two_flows (x := yr) (a := lo) (b := hi') (t := 3)
      have HN := Lib.hid hna; clear hna
      rw [hya]; clear hya
      refine ⟨⟨_, rfl⟩, ?_⟩
      try simp only [Act.put, List.setIfInBounds_toArray, List.set_cons_zero, List.set_cons_succ]
      refine wpAnyG_one (i := 4) (by kernel_rfl) (by decide) (wpOp_plain rfl rfl ?_)
      go_simp
      go_at_call 62
      refine (areFlows_any 2 2 _ _ _ (by omega) HN.out).mono ?_
      rintro e w' ⟨rfl, rfl⟩
      rw [HV.out]
      refine ⟨⟨_, rfl⟩, ?_⟩
      try simp only [Act.put, List.setIfInBounds_toArray, List.set_cons_zero, List.set_cons_succ]
      refine wpAnyG_take (i := 5) (v := ?_) (by kernel_rfl) rfl (by kernel_rfl) (by kernel_rfl) (by kernel_rfl) (fun _ _ _ h => h) (Or.inl ⟨by rfl, ?_⟩) ⟨_, rfl⟩ ?_
      rotate_left
      · rintro wS ⟨yS, rfl⟩
        go_simp
        try (with_reducible rfl)
      try simp only [Act.put, List.setIfInBounds_toArray, List.set_cons_zero, List.set_cons_succ]
      refine wpAnyG_take (i := 6) (v := ?_) (by kernel_rfl) rfl (by kernel_rfl) (by kernel_rfl) (by kernel_rfl) (fun _ _ _ h => h) (Or.inl ⟨by rfl, ?_⟩) ⟨_, rfl⟩ ?_
      rotate_left
      · rintro wS ⟨yS, rfl⟩
        go_simp
        try (with_reducible rfl)
      try simp only [Act.put, List.setIfInBounds_toArray, List.set_cons_zero, List.set_cons_succ]
      refine wpAnyG_take (i := 7) (v := ?_) (by kernel_rfl) rfl (by kernel_rfl) (by kernel_rfl) (by kernel_rfl) (fun _ _ _ h => h) (Or.inl ⟨by rfl, ?_⟩) ⟨_, rfl⟩ ?_
      rotate_left
      · rintro wS ⟨yS, rfl⟩
        go_simp
        try (with_reducible rfl)
      try simp only [Act.put, List.setIfInBounds_toArray, List.set_cons_zero, List.set_cons_succ]
      refine wpAnyG_take (i := 8) (v := ?_) (by kernel_rfl) rfl (by kernel_rfl) (by kernel_rfl) (by kernel_rfl) (fun _ _ _ h => h) (Or.inl ⟨by rfl, ?_⟩) ⟨_, rfl⟩ ?_
      rotate_left
      · rintro wS ⟨yS, rfl⟩
        go_simp
        try (with_reducible rfl)
      try simp only [Act.put, List.setIfInBounds_toArray, List.set_cons_zero, List.set_cons_succ]
      refine wpAnyG_take (i := 9) (v := ?_) (by kernel_rfl) rfl (by kernel_rfl) (by kernel_rfl) (by kernel_rfl) (fun _ _ _ h => h) (Or.inl ⟨by rfl, ?_⟩) ⟨_, rfl⟩ ?_
      rotate_left
      · rintro wS ⟨yS, rfl⟩
        go_simp
        try (with_reducible rfl)
      try simp only [Act.put, List.setIfInBounds_toArray, List.set_cons_zero, List.set_cons_succ]
      refine wpAnyG_one (i := 10) (by kernel_rfl) (by decide) (wpOp_plain rfl rfl ?_)
      go_simp
      go_at_call 60
      refine (quiet_x (HA.out _ (HI.out _))).mono ?_
      rintro e w' ⟨rfl, yc, rfl⟩
      refine ⟨⟨_, rfl⟩, ?_⟩
      try simp only [Act.put, List.setIfInBounds_toArray, List.set_cons_zero, List.set_cons_succ]
      refine wpAnyG_done (by kernel_rfl) (by kernel_rfl) (wpOp_plain rfl rfl ?_)
      go_simp
      go_wp2
      go_ret2
      exact ⟨rfl, bT HB.out yc.b⟩
set_option maxRecDepth 100000 in
set_option maxHeartbeats 4000000 in
theorem betweenR_err (D : Bx) (p q : Option Addr) (c d : Nat) (lo hi' : Int) (w : World) (hn : D.n ≤ 40) (hm : D.m ≤ 40) (hi : BxIn w w.heap.size D p q) (he : chkE D.ok (isBt lo hi') ≠ 0) :
    Calls Try.prog 31 #[.agg #[.slice p D.n c, .slice q D.m d], .int .i64 lo, .int .i64 hi'] w fun e w' => e = .returned (.tuple #[.slice none 0 0, .int .i64 (chkE D.ok (isBt lo hi'))]) ∧ Below w.heap.size w w' := by
  obtain ⟨w1, x, hw1, hb1, hz1, F0, F1⟩ := box_bx w p q D.n D.m c d
  have HB := Lib.hid hb1
  have HI : Hid (∀ x : Ext w1, BxIn x.v x.v.heap.size D p q) := fun x => (hi.bel hb1).bel x.b
  clear hb1 hz1 hi
  have j0 : (chkE D.ok (isBt lo hi') != 0) = true := by simpa using he
  have HA := Lib.hid (show ∀ V : World, BxIn V V.heap.size D p q → Calls Try.prog 65 #[.agg #[.slice p D.n c, .slice q D.m d], .bool (isBt lo hi')] V fun e w' => e = .returned (.int .i64 (chkE D.ok (isBt lo hi'))) ∧ Below V.heap.size V w' from fun V h => ask_is rfl hn hm h)
  generalize chkE D.ok (isBt lo hi') = ev at j0 HA ⊢
  clear he
  cases h1 : within lo 0 40 with
  | false =>
    have hv : isBt lo hi' = false := by unfold isBt; rw [h1]; first | rfl | (rw [Bool.false_and]; done) | (rw [Bool.false_and, Bool.false_and]; done)
    rw [hv] at HA
    have HF1 := Lib.hid (show ∀ V : World, Calls Try.prog 58 #[.int .i64 lo] V fun e w' => e = .returned (.bool false) ∧ V = w' from fun V => by
      have := isFlowR_any lo V
      rw [h1] at this
      exact this)
    clear hv h1
    go_enter Try.func31, Try.ntmps31
    go_wp2
    refine quiet_e (by kernel_rfl) (by kernel_rfl) ?_
    repeat (first | go_big_quiet_step ((first | (go_at_call 58; exact quiet_s (HF1.out _)) | (go_at_call 65; exact quiet_x (HA.out _ (HI.out _))))) | quiet_step ((first | (go_at_call 58; exact quiet_s (HF1.out _)) | (go_at_call 65; exact quiet_x (HA.out _ (HI.out _))))))
    refine wpQuiet_nil ?_
    intro w6 hw6
    obtain ⟨yq, rfl⟩ := hw6
    go_wp2
    go_ret2
    exact ⟨rfl, bT HB.out yq.b⟩
  | true =>
    cases h2 : within hi' 0 40 with
    | false =>
      have hv : isBt lo hi' = false := by unfold isBt; rw [h1, h2]; first | rfl | (rw [Bool.false_and]; done) | (rw [Bool.false_and, Bool.false_and]; done)
      rw [hv] at HA
      have HF1 := Lib.hid (show ∀ V : World, Calls Try.prog 58 #[.int .i64 lo] V fun e w' => e = .returned (.bool true) ∧ V = w' from fun V => by
        have := isFlowR_any lo V
        rw [h1] at this
        exact this)
      have HF2 := Lib.hid (show ∀ V : World, Calls Try.prog 58 #[.int .i64 hi'] V fun e w' => e = .returned (.bool false) ∧ V = w' from fun V => by
        have := isFlowR_any hi' V
        rw [h2] at this
        exact this)
      clear hv h1 h2
      go_enter Try.func31, Try.ntmps31
      go_wp2
      refine quiet_e (by kernel_rfl) (by kernel_rfl) ?_
      repeat (first | go_big_quiet_step ((first | (go_at_call 58; exact quiet_s (HF1.out _)) | (go_at_call 58; exact quiet_s (HF2.out _)) | (go_at_call 65; exact quiet_x (HA.out _ (HI.out _))))) | quiet_step ((first | (go_at_call 58; exact quiet_s (HF1.out _)) | (go_at_call 58; exact quiet_s (HF2.out _)) | (go_at_call 65; exact quiet_x (HA.out _ (HI.out _))))))
      refine wpQuiet_nil ?_
      intro w6 hw6
      obtain ⟨yq, rfl⟩ := hw6
      go_wp2
      go_ret2
      exact ⟨rfl, bT HB.out yq.b⟩
    | true =>
      cases hl : decide (lo ≤ hi') with
      | false =>
        have hv : isBt lo hi' = false := by unfold isBt; rw [h1, h2, hl]; first | rfl | (rw [Bool.false_and]; done) | (rw [Bool.false_and, Bool.false_and]; done)
        rw [hv] at HA
        have HF1 := Lib.hid (show ∀ V : World, Calls Try.prog 58 #[.int .i64 lo] V fun e w' => e = .returned (.bool true) ∧ V = w' from fun V => by
          have := isFlowR_any lo V
          rw [h1] at this
          exact this)
        have HF2 := Lib.hid (show ∀ V : World, Calls Try.prog 58 #[.int .i64 hi'] V fun e w' => e = .returned (.bool true) ∧ V = w' from fun V => by
          have := isFlowR_any hi' V
          rw [h2] at this
          exact this)
        clear hv h1 h2
        go_enter Try.func31, Try.ntmps31
        go_wp2
        refine quiet_e (by kernel_rfl) (by kernel_rfl) ?_
        repeat (first | go_big_quiet_step ((first | (go_at_call 58; exact quiet_s (HF1.out _)) | (go_at_call 58; exact quiet_s (HF2.out _)) | (go_at_call 65; exact quiet_x (HA.out _ (HI.out _))))) | quiet_step ((first | (go_at_call 58; exact quiet_s (HF1.out _)) | (go_at_call 58; exact quiet_s (HF2.out _)) | (go_at_call 65; exact quiet_x (HA.out _ (HI.out _))))))
        refine wpQuiet_nil ?_
        intro w6 hw6
        obtain ⟨yq, rfl⟩ := hw6
        go_wp2
        go_ret2
        exact ⟨rfl, bT HB.out yq.b⟩
      | true =>
        have hv : isBt lo hi' = true := by unfold isBt; rw [h1, h2, hl]; first | rfl | (rw [Bool.false_and]; done) | (rw [Bool.false_and, Bool.false_and]; done)
        rw [hv] at HA
        have HF1 := Lib.hid (show ∀ V : World, Calls Try.prog 58 #[.int .i64 lo] V fun e w' => e = .returned (.bool true) ∧ V = w' from fun V => by
          have := isFlowR_any lo V
          rw [h1] at this
          exact this)
        have HF2 := Lib.hid (show ∀ V : World, Calls Try.prog 58 #[.int .i64 hi'] V fun e w' => e = .returned (.bool true) ∧ V = w' from fun V => by
          have := isFlowR_any hi' V
          rw [h2] at this
          exact this)
        clear hv h1 h2
        go_enter Try.func31, Try.ntmps31
        go_wp2
        refine quiet_e (by kernel_rfl) (by kernel_rfl) ?_
        repeat (first | go_big_quiet_step ((first | (go_at_call 58; exact quiet_s (HF1.out _)) | (go_at_call 58; exact quiet_s (HF2.out _)) | (go_at_call 65; exact quiet_x (HA.out _ (HI.out _))))) | quiet_step ((first | (go_at_call 58; exact quiet_s (HF1.out _)) | (go_at_call 58; exact quiet_s (HF2.out _)) | (go_at_call 65; exact quiet_x (HA.out _ (HI.out _))))))
        refine wpQuiet_nil ?_
        intro w6 hw6
        obtain ⟨yq, rfl⟩ := hw6
        go_wp2
        go_ret2
        exact ⟨rfl, bT HB.out yq.b⟩
theorem gv_20' {D : Bx} (hok : D.ok = true) (F i : Nat) : 0 ≤ gv D F i ∧ gv D F i ≤ 20 := by
  obtain ⟨h1, h2, h3, _⟩ := gv_bd hok F i
  rcases Nat.lt_or_ge i D.n with h | h
  · have := h2 h; have := (Bx.ok_parts hok).2.2.2 i (by have := (Bx.ok_parts hok).2.1; omega); omega
  · have := h3 h; omega
def loF (D : Bx) (F k f : Nat) : Int := if f = F then 20 else gv D F k
def hiF (D : Bx) (F k f : Nat) : Int := if f = F then 0 else gv D (f - 1) k
theorem grown_one (W : World) (b i : Nat) (v : Value) : W.grownBy (W.setCell ⟨b, i, none⟩ v) (some b) := ⟨by first | rfl | simp, by first | rfl | simp, by first | rfl | simp, by first | rfl | simp, fun k _ hk => setCell_block (fun e => hk (by rw [e]))⟩
set_option maxRecDepth 100000 in
set_option maxHeartbeats 16000000 in
theorem betweenR_ok (D : Bx) (p q : Option Addr) (c d F G : Nat) (w : World) (hok : D.ok = true) (hF : F ≤ G) (hG40 : G ≤ 40) (hi : BxIn w w.heap.size D p q) :
    Calls Try.prog 31 #[.agg #[.slice p D.n c, .slice q D.m d], .int .i64 (F : Int), .int .i64 (G : Int)] w fun e w' => ∃ y c', e = .returned (.tuple #[.slice y D.n c', .int .i64 0]) ∧ Below w.heap.size w w' ∧ PairIn w' w'.heap.size D.n (gv D F) (gv D G) y := by
  obtain ⟨i0, hi0, hz0, hz1, hz2⟩ := info_parts infoSp
  have I1 := Lib.hid hi0; have I2 := Lib.hid hz0; have I3 := Lib.hid hz1; have I4 := Lib.hid hz2; clear hi0 hz0 hz1 hz2
  obtain ⟨w1, x, hw1, hb1, hz1, F0, F1⟩ := box_bx w p q D.n D.m c d
  have HB := Lib.hid hb1
  have HI : Hid (∀ x : Ext w1, BxIn x.v x.v.heap.size D p q) := fun x => (hi.bel hb1).bel x.b
  clear hb1 hz1 hi
  have hn5 := (Bx.ok_parts hok).1
  have hm5 : D.m ≤ 5 := by have := (Bx.ok_parts hok).2.1; omega
  have HF1 := Lib.hid (show ∀ V : World, Calls Try.prog 58 #[.int .i64 (F : Int)] V fun e w' => e = .returned (.bool true) ∧ V = w' from fun V => by
    have := isFlowR_any (F : Int) V
    rw [within_tt (by omega) (by omega)] at this
    exact this)
  have HF2 := Lib.hid (show ∀ V : World, Calls Try.prog 58 #[.int .i64 (G : Int)] V fun e w' => e = .returned (.bool true) ∧ V = w' from fun V => by
    have := isFlowR_any (G : Int) V
    rw [within_tt (by omega) (by omega)] at this
    exact this)
  have HCE := Lib.hid (chkE_ok.2 ⟨hok, rfl⟩)
  have HOK := Lib.hid hok
  have jfg : decide ((F : Int) ≤ (G : Int)) = true := by simp; omega
  have jfg2 : F ≤ G := hF
  clear hok
  go_enter Try.func31, Try.ntmps31
  go_wp2
  refine quiet_e (by kernel_rfl) (by kernel_rfl) ?_
  repeat (first | go_big_quiet_step ((first | (go_at_call 58; exact quiet_s (HF1.out _)) | (go_at_call 58; exact quiet_s (HF2.out _)) | (go_at_call 65; exact quiet_x (ask_is HCE.out (by omega) (by omega) (HI.out _))))) | quiet_step ((first | (go_at_call 58; exact quiet_s (HF1.out _)) | (go_at_call 58; exact quiet_s (HF2.out _)) | (go_at_call 65; exact quiet_x (ask_is HCE.out (by omega) (by omega) (HI.out _))))))
  refine wpQuiet_nil ?_
  intro w6 hw6
  obtain ⟨yq, rfl⟩ := hw6
  go_wp2
  clear hw1 jfg
  go_loopw [9, 10] (fun v i wr => ∃ k : Nat, i = .int .i64 (k : Int) ∧ k ≤ D.n ∧ ∃ z : Ext w1, wr = z.v ∧ z.v.ownsRow w1.heap.size 67 2 v k (row2 (gv D F) (gv D G) k)) (fun _ i _ => D.n - (intOf i).toNat)
  case atStart => exact ⟨0, rfl, Nat.zero_le _, yq, rfl, World.ownsRow_nil _ _ _ _⟩
  case round =>
    obtain ⟨k, rfl, hk, z, rfl, ho⟩ := hrel
    have HO := Lib.hid ho; clear ho
    by_cases hlt : k < D.n
    · have hkm : (k : Int) < (D.n : Int) := by omega
      obtain ⟨pr, cr, rfl, _⟩ := own_form HO.out
      -- the span of this quarter
      obtain ⟨sb, hsb⟩ : ∃ sb, z.v.heap.size = sb := ⟨_, rfl⟩
      have hown0 : ∀ g, (Value.slice pr k cr).ownBlock = some g → g ≠ sb := fun g hg => by have := (HO.out.lt g hg).2; omega
      have HNS := Lib.hid hown0
      have hsl : w1.heap.size ≤ sb := by have := z.b.size; omega
      have hc0 : (z.v.alloc (Obj.cells #[.int .i64 20, .int .i64 0] 67)).cell? ⟨z.v.heap.size, 0, none⟩ = some (.int .i64 20) := by go_simp
      have hc1 : (z.v.alloc (Obj.cells #[.int .i64 20, .int .i64 0] 67)).cell? ⟨z.v.heap.size, 1, none⟩ = some (.int .i64 0) := by go_simp
      have hcf : ∀ i, (z.v.alloc (Obj.cells #[.int .i64 20, .int .i64 0] 67)).frozen? ⟨z.v.heap.size, i, none⟩ = false := fun i => by go_simp
      have hlt0 : z.v.heap.size < (z.v.alloc (Obj.cells #[.int .i64 20, .int .i64 0] 67)).heap.size := by simp
      have ho1 := HO.out.alloc (Obj.cells #[.int .i64 20, .int .i64 0] 67)
      obtain ⟨y1, hy1⟩ : ∃ zz : Ext w1, z.v.alloc (Obj.cells #[.int .i64 20, .int .i64 0] 67) = zz.v := ⟨⟨_, bA z.b _⟩, rfl⟩
      rw [hy1] at hc0 hc1 hcf ho1 hlt0
      rw [hsb] at hc0 hc1 hcf hlt0
      have HC0 := Lib.hid hc0; have HC1 := Lib.hid hc1; have HCF := Lib.hid hcf; have HO1 := Lib.hid ho1; have HLT := Lib.hid hlt0; have HSL := Lib.hid hsl
      have HY1 := Lib.hid hy1; have HSB := Lib.hid hsb
      clear hc0 hc1 hcf ho1 hlt0 hsl hown0 hy1 hsb
      go_wp2
      rw [HY1.out, HSB.out]
      go_loopw [12] (fun i wr => ∃ f : Nat, i = .int .i64 (f : Int) ∧ F ≤ f ∧ f ≤ G + 1 ∧ ∃ z : Ext w1, wr = z.v ∧ sb < z.v.heap.size ∧ z.v.cell? ⟨sb, 0, none⟩ = some (.int .i64 (loF D F k f)) ∧ z.v.cell? ⟨sb, 1, none⟩ = some (.int .i64 (hiF D F k f)) ∧ (∀ i, z.v.frozen? ⟨sb, i, none⟩ = false) ∧ z.v.ownsRow w1.heap.size 67 2 (.slice pr k cr) k (row2 (gv D F) (gv D G) k)) (fun i _ => G + 1 - (intOf i).toNat)
      case atStart => exact ⟨F, rfl, Nat.le_refl _, by omega, y1, rfl, HLT.out, by rw [show loF D F k F = 20 from if_pos rfl]; exact HC0.out, by rw [show hiF D F k F = 0 from if_pos rfl]; exact HC1.out, HCF.out, HO1.out⟩
      case round =>
        obtain ⟨f, rfl, hf1, hf2, zf, rfl, hsl2, hl0, hl1, hlf, hof⟩ := hrel
        have HOF := Lib.hid hof; have HS2 := Lib.hid hsl2; have HL0 := Lib.hid hl0; have HL1 := Lib.hid hl1; have HLF := Lib.hid hlf
        clear hof hsl2 hl0 hl1 hlf
        by_cases hfl : f ≤ G
        · have hfm : (f : Int) ≤ (G : Int) := by omega
          have hb20 := gv_20' HOK.out f k
          have hbF := gv_20' HOK.out F k
          have hmo := gv_monoQ (D := D) (f := F) (e := f) hf1 k
          have hmo2 := gv_monoQ (D := D) (f := f - 1) (e := f) (by omega) k
          have hlo : loF D F k (f + 1) = gv D F k := if_neg (by omega)
          have hhi : hiF D F k (f + 1) = gv D f k := by
            show (if f + 1 = F then 0 else gv D (f + 1 - 1) k) = _
            rw [if_neg (by omega), Nat.add_sub_cancel]
          have hlo1 : loF D F k f = 20 ∨ loF D F k f = gv D F k := by unfold loF; split <;> simp
          have hhi1 : hiF D F k f ≤ gv D f k := by unfold hiF; split <;> omega
          have hloF : f = F ∨ loF D F k f = gv D F k := by
            by_cases e : f = F
            · exact .inl e
            · exact .inr (if_neg e)
          have hmin : (if gv D f k < loF D F k f then gv D f k else loF D F k f) = loF D F k (f + 1) := by
            rw [hlo]
            rcases hloF with e | e
            · subst e; rw [show loF D f k f = 20 from if_pos rfl]; split <;> omega
            · rw [e]; split <;> omega
          have hmin2 : (if loF D F k f < gv D f k then loF D F k f else gv D f k) = loF D F k (f + 1) := by
            rw [hlo]
            rcases hloF with e | e
            · subst e; rw [show loF D f k f = 20 from if_pos rfl]; split <;> omega
            · rw [e]; split <;> omega
          have hmax : (if hiF D F k f < gv D f k then gv D f k else hiF D F k f) = hiF D F k (f + 1) := by rw [hhi]; split <;> omega
          have hmax2 : (if gv D f k < hiF D F k f then hiF D F k f else gv D f k) = hiF D F k (f + 1) := by rw [hhi]; split <;> omega
          clear hlo hhi hlo1 hhi1 hloF hmo hmo2 hb20 hbF
          go_wp2_with fail
          refine (gaugesOf_any D p q c d f _ HOK.out (by omega) (HI.out _)).mono ?_
          rintro e w' ⟨ya, ca, rfl, hca⟩
          have hbl := hca.below
          have m0 := (hbl.cell (p := ⟨sb, 0, none⟩) HS2.out).trans HL0.out
          have m1 := (hbl.cell (p := ⟨sb, 1, none⟩) HS2.out).trans HL1.out
          have mf : ∀ i, w'.frozen? ⟨sb, i, none⟩ = false := fun i => (hbl.frozen (p := ⟨sb, i, none⟩) HS2.out).trans (HLF.out i)
          have ho2 := own_below HOF.out hbl
          have hs3 : sb < w'.heap.size := Nat.lt_of_lt_of_le HS2.out hbl.size
          obtain ⟨za, hza⟩ : ∃ zz : Ext w1, w' = zz.v := ⟨⟨_, bT zf.b hbl⟩, rfl⟩
          have hna := hca.num
          rw [hza] at hna m0 m1 mf ho2 hs3 ⊢
          obtain ⟨g0, go, rfl, _, hcc⟩ := hna (by omega)
          have E0 : za.v.cell? ⟨g0, go + k, none⟩ = some (.int .i64 (gv D f k)) := hcc k hlt
          obtain ⟨W5, hW5⟩ : ∃ W5, (za.v.setCell ⟨sb, 0, none⟩ (.int .i64 (loF D F k (f + 1)))).setCell ⟨sb, 1, none⟩ (.int .i64 (hiF D F k (f + 1))) = W5 := ⟨_, rfl⟩
          have d0 : W5.cell? ⟨sb, 0, none⟩ = some (.int .i64 (loF D F k (f + 1))) := by rw [← hW5, World.cell?_setCell_other _ _ _ _ (by simp)]; exact World.cell?_setCell_same _ _ _ m0
          have d1 : W5.cell? ⟨sb, 1, none⟩ = some (.int .i64 (hiF D F k (f + 1))) := by rw [← hW5]; exact World.cell?_setCell_same _ _ _ ((World.cell?_setCell_other _ _ _ _ (by simp)).trans m1)
          have df : ∀ i, W5.frozen? ⟨sb, i, none⟩ = false := fun i => by rw [← hW5]; have := mf i; simpa using this
          have hne : (Value.slice pr k cr).ownBlock = none ∨ (Value.slice pr k cr).ownBlock ≠ some sb := by
            cases hv : (Value.slice pr k cr).ownBlock with
            | none => exact .inl rfl
            | some g => exact .inr fun e => by cases e; exact HNS.out _ hv rfl
          have ho5 : W5.ownsRow w1.heap.size 67 2 (.slice pr k cr) k (row2 (gv D F) (gv D G) k) := by rw [← hW5]; exact (ho2.kept (grown_one _ _ _ _) hne).kept (grown_one _ _ _ _) hne
          have hs5 : sb < W5.heap.size := by rw [← hW5]; simpa using hs3
          have hb5 : Below w1.heap.size w1 W5 := by rw [← hW5]; exact bS (bS za.b HSL.out _) HSL.out _
          have HD0 := Lib.hid d0; have HD1 := Lib.hid d1; have HDF := Lib.hid df; have HO5 := Lib.hid ho5; have HS5 := Lib.hid hs5; have HB5 := Lib.hid hb5
          clear hca hna hza hcc hbl ho2 hs3 d0 d1 df ho5 hs5 hb5 hne
          go_wp2
          try rw [hW5]
          go_roundw
          case rel => exact ⟨f + 1, by go_num, by omega, by omega, ⟨W5, HB5.out⟩, rfl, HS5.out, HD0.out, HD1.out, HDF.out, HO5.out⟩
          case measure => first | (simp [intOf]; done) | (simp [intOf]; omega)
        · have hfG : f = G + 1 := by omega
          have jf : decide ((f : Int) ≤ (G : Int)) = false := by simp; omega
          have jf2 : ¬ (f : Int) ≤ (G : Int) := by omega
          have q0 : zf.v.cell? ⟨sb, 0, none⟩ = some (.int .i64 (gv D F k)) := by rw [HL0.out, hfG, show loF D F k (G + 1) = gv D F k from if_neg (by omega)]
          have q1 : zf.v.cell? ⟨sb, 1, none⟩ = some (.int .i64 (gv D G k)) := by
            rw [HL1.out, hfG]
            show some (Value.int .i64 (if G + 1 = F then 0 else gv D (G + 1 - 1) k)) = _
            rw [if_neg (by omega), Nat.add_sub_cancel]
          clear hfG
          go_wp2_with (at_builtin; refine wpList_append_own _ rfl _ _ 40 rfl w1.heap.size 67 i0 _ 2 16 Try.underlying40 I1.out I2.out I3.out I4.out rfl (by decide) _ _ _ rfl (HOF.out.alloc _) ⟨zf.v.heap.size, 0, none⟩ 1 1 [.int .i64 (gv D F k), .int .i64 (gv D G k)] rfl rfl (World.news_of_block (cs := #[.int .i64 (gv D F k), .int .i64 (gv D G k)]) (t := 67) (fr := (0, 0)) (heap_alloc_new _)) ?c2 ?c3 ?c4 ?c5 ?_)
          case c2 => simp [Value.oneCell']
          case c3 => unfold maxLen; omega
          case c4 => omega
          case c5 => have := zf.b.size; first | omega | (simp; omega)
          intro v' w4 hown hgrow _
          have HB4 := Lib.hid (below_grown (bA zf.b _) (HOF.out.alloc _) (Nat.le_refl _) hgrow)
          have HOW := Lib.hid hown
          clear hown hgrow q0 q1
          go_wp2
          go_roundw
          case rel => exact ⟨k + 1, by go_num, hlt, ⟨w4, HB4.out⟩, rfl, HOW.out⟩
          case measure => first | (simp [intOf]; done) | (simp [intOf]; omega)
    · obtain rfl : k = D.n := by omega
      obtain ⟨pr, cr, rfl, hnum⟩ := pair_own HO.out
      have HN := Lib.hid hnum
      have j : decide ((D.n : Int) < (D.n : Int)) = false := by simp
      clear hnum hlt
      go_wp2
      go_ret2
      exact ⟨_, _, rfl, bT HB.out z.b, HN.out⟩
theorem betweenP_any (D : Bx) (p q : Option Addr) (c d : Nat) (lo hi' : Int) (w : World) (hn : D.n ≤ 40) (hm : D.m ≤ 40) (hi : BxIn w w.heap.size D p q) :
    Calls Try.prog 30 #[.agg #[.slice p D.n c, .slice q D.m d], .int .i64 lo, .int .i64 hi'] w fun e w' => ∃ y c', e = .returned (.tuple #[.slice y (btN D lo hi') c', .int .i64 (chkE D.ok (isBt lo hi'))]) ∧ Below w.heap.size w w' ∧ PairIn w' w'.heap.size (btN D lo hi') (gv D lo.toNat) (gv D hi'.toNat) y := by
  by_cases h : chkE D.ok (isBt lo hi') = 0
  · rw [show btN D lo hi' = D.n from if_pos h, h]
    obtain ⟨hok, F, G, rfl, rfl, hFG, hG⟩ := bt_parts h
    exact betweenP_ok D p q c d F G w hok hFG hG hi
  · rw [show btN D lo hi' = 0 from if_neg h]
    refine (betweenP_err D p q c d lo hi' w hn hm hi h).mono ?_
    rintro e w' ⟨rfl, hb⟩
    exact ⟨none, 0, rfl, hb, fun h0 => absurd h0 (Nat.lt_irrefl 0)⟩
theorem betweenR_any (D : Bx) (p q : Option Addr) (c d : Nat) (lo hi' : Int) (w : World) (hn : D.n ≤ 40) (hm : D.m ≤ 40) (hi : BxIn w w.heap.size D p q) :
    Calls Try.prog 31 #[.agg #[.slice p D.n c, .slice q D.m d], .int .i64 lo, .int .i64 hi'] w fun e w' => ∃ y c', e = .returned (.tuple #[.slice y (btN D lo hi') c', .int .i64 (chkE D.ok (isBt lo hi'))]) ∧ Below w.heap.size w w' ∧ PairIn w' w'.heap.size (btN D lo hi') (gv D lo.toNat) (gv D hi'.toNat) y := by
  by_cases h : chkE D.ok (isBt lo hi') = 0
  · rw [show btN D lo hi' = D.n from if_pos h, h]
    obtain ⟨hok, F, G, rfl, rfl, hFG, hG⟩ := bt_parts h
    exact betweenR_ok D p q c d F G w hok hFG hG hi
  · rw [show btN D lo hi' = 0 from if_neg h]
    refine (betweenR_err D p q c d lo hi' w hn hm hi h).mono ?_
    rintro e w' ⟨rfl, hb⟩
    exact ⟨none, 0, rfl, hb, fun h0 => absurd h0 (Nat.lt_irrefl 0)⟩
end Go.Proofs.Ythbicbmlbblflaa
