/- Boxes of mouths: Paradox and Differ of both. -/
import Derived.Test.YthbicbmlbblflaaC14

import Derived.ChangeKeysEq

set_option linter.unusedSimpArgs false

set_option linter.unusedVariables false

namespace Go.Proofs.Ythbicbmlbblflaa

open Go.RowKit Go.Shelf
attribute [local go_sem] Oper.semAt_some

def eqF (a b : Nat → Int) : Bool := (a 0 == b 0) && ((a 1 == b 1) && ((a 2 == b 2) && ((a 3 == b 3) && (a 4 == b 4))))
set_option maxRecDepth 100000 in
set_option maxHeartbeats 4000000 in
theorem neq_five (a b : Nat → Int) (w : World) : (binOp .neq 73 (.agg #[.int .i64 (a 0), .int .i64 (a 1), .int .i64 (a 2), .int .i64 (a 3), .int .i64 (a 4)]) (.agg #[.int .i64 (b 0), .int .i64 (b 1), .int .i64 (b 2), .int .i64 (b 3), .int .i64 (b 4)])).run Try.prog w = .ok (.bool (!(eqF a b))) w := by
  obtain ⟨i0, hi, hz, hs, hb⟩ := info_parts infoI
  have hc : Try.prog.cellsOf 3 = 1 := by kernel_rfl
  have he : (Op.equalIn 10000 73 (.agg #[.int .i64 (a 0), .int .i64 (a 1), .int .i64 (a 2), .int .i64 (a 3), .int .i64 (a 4)]) (.agg #[.int .i64 (b 0), .int .i64 (b 1), .int .i64 (b 2), .int .i64 (b 3), .int .i64 (b 4)])).run Try.prog w = .ok (eqF a b) w := by
    rw [show (10000 : Nat) = 9999 + 1 from rfl, run_equalIn_array w 9999 _ _ Try.underlying73 hi, hc, show List.range 5 = [0, 1, 2, 3, 4] from rfl]
    unfold eqF
    simp only [Op.eqItems]
    by_cases h0 : a 0 = b 0 <;> by_cases h1 : a 1 = b 1 <;> by_cases h2 : a 2 = b 2 <;> by_cases h3 : a 3 = b 3 <;> by_cases h4 : a 4 = b 4 <;> go_simp
    all_goals simp [*]
  go_simp
def same1 (f g : Nat → Int) (k : Nat) : Bool := f k == g k
theorem allN_pad {P : Nat → Bool} {n : Nat} (h : ∀ i, n ≤ i → P i = true) : ∀ {m : Nat}, n ≤ m → allN P m = allN P n
  | 0, hm => by rw [show n = 0 by omega]
  | m + 1, hm => by
    rcases Nat.lt_or_ge m n with h1 | h1
    · rw [show m + 1 = n by omega]
    · rw [← allN_pad h h1]
      show (allN P m && P m) = _
      rw [h m h1, Bool.and_true]
theorem eqF_all (f g : Nat → Int) : eqF f g = allN (same1 f g) 5 := by
  show _ = (((((true && same1 f g 0) && same1 f g 1) && same1 f g 2) && same1 f g 3) && same1 f g 4)
  unfold eqF same1
  simp [Bool.and_assoc]
/-- whether gauges and remainders of a flow differ -/
def dfB (D : Bx) (F : Nat) : Bool := !(allN (same1 (gv D F) (RM D F)) D.n)
theorem dfB_five {D : Bx} (hok : D.ok = true) (F : Nat) : (!(eqF (gv D F) (RM D F))) = dfB D F := by
  unfold dfB
  rw [eqF_all, allN_pad (n := D.n) (fun i hi => by unfold same1; rw [(gv_bd hok F i).2.2.1 hi, RM_out hok hi]; rfl) (Bx.ok_parts hok).1]
/-- the first number that is so -/
def fsN (P : Nat → Bool) : Nat → Option Nat
  | 0 => none
  | k + 1 => match fsN P k with
    | some x => some x
    | none => if P k then some k else none
theorem fsN_miss {P : Nat → Bool} {k : Nat} (h : fsN P k = none) (h2 : P k = false) : fsN P (k + 1) = none := by
  show (match fsN P k with | some x => some x | none => if P k then some k else none) = none
  rw [h, h2]; rfl
theorem fsN_hit {P : Nat → Bool} {k : Nat} (h : fsN P k = none) (h2 : P k = true) : ∀ {n : Nat}, k < n → fsN P n = some k
  | n + 1, hn => by
    show (match fsN P n with | some x => some x | none => if P n then some n else none) = some k
    rcases Nat.lt_succ_iff_lt_or_eq.1 hn with h1 | rfl
    · rw [fsN_hit h h2 h1]
    · rw [h, h2]; rfl
/-- what a search for a flow answers -/
def srV (D : Bx) (P : Nat → Bool) (n : Nat) : Int := if D.ok then onI (fsN P n) else 0
def srE (D : Bx) (P : Nat → Bool) (n : Nat) : Int := if D.ok then noneE (fsN P n).isSome else 70
def pdB (D : Bx) (F : Nat) : Bool := pdA D F D.n
set_option maxRecDepth 100000 in
set_option maxHeartbeats 4000000 in
theorem sameG_any (l : Nat) (f g : Nat → Int) (p q : Option Addr) (c d : Nat) (w : World) (hl : l ≤ 1000) (h1 : NumIn w w.heap.size l f p) (h2 : NumIn w w.heap.size l g q) :
    Calls Try.prog 26 #[.slice p l c, .slice q l d] w fun e w' => e = .returned (.bool (allN (same1 f g) l)) ∧ Below w.heap.size w w' := by
  obtain ⟨x, hx⟩ := rebase w
  have H1 : Hid (∀ z : Ext w, NumIn z.v z.v.heap.size l f p) := fun z => h1.bel z.b
  have H2 : Hid (∀ z : Ext w, NumIn z.v z.v.heap.size l g q) := fun z => h2.bel z.b
  have d1 : ((l : Int) != (l : Int)) = false := by simp
  have HG : Hid (∀ w', (∃ z : Ext w, w' = z.v) → Below w.heap.size w w') := fun w' ⟨z, h⟩ => h ▸ z.b
  clear h1 h2
  go_enter Try.func26, Try.ntmps26
  go_wp2
  go_loopw [5] (fun i wr => ∃ k : Nat, i = .int .i64 k ∧ k ≤ l ∧ allN (same1 f g) k = true ∧ ∃ x : Ext w, wr = x.v) (fun i _ => l - (intOf i).toNat)
  case atStart => exact ⟨0, rfl, Nat.zero_le _, rfl, x, by first | exact hx | rfl⟩
  case round =>
    clear hx x
    obtain ⟨k, rfl, hk, hal, y, rfl⟩ := hrel
    have HAL := Lib.hid hal; clear hal
    by_cases hlt : k < l
    · obtain ⟨b1, o1, rfl, _, _⟩ := H1.out y (by omega)
      obtain ⟨b2, o2, rfl, _, _⟩ := H2.out y (by omega)
      have C1 : ∀ z : Ext w, z.v.cell? ⟨b1, o1 + k, none⟩ = some (.int .i64 (f k)) := fun z => ((H1.out z).cell hlt).2
      have C2 : ∀ z : Ext w, z.v.cell? ⟨b2, o2 + k, none⟩ = some (.int .i64 (g k)) := fun z => ((H2.out z).cell hlt).2
      have j : decide ((k : Int) < (l : Int)) = true := by simp; omega
      have j2 : (k : Int) < (l : Int) := by omega
      obtain ⟨a, ha⟩ : ∃ a, f k = a := ⟨_, rfl⟩
      obtain ⟨b, hb⟩ : ∃ b, g k = b := ⟨_, rfl⟩
      have HSM : Hid (same1 f g k = (a == b)) := by unfold same1; rw [ha, hb]; rfl
      rw [ha] at C1; rw [hb] at C2
      clear ha hb
      by_cases he : a = b
      · have HS := Lib.hid (show allN (same1 f g) (k + 1) = true from allN_succ HAL.out (by rw [HSM.out]; simpa using he))
        subst he
        go_wp2
        refine quiet_e (by kernel_rfl) (by kernel_rfl) ?_
        repeat (first | go_big_quiet_step (fail) | quiet_step (fail))
        refine wpQuiet_nil ?_
        intro w6 hw6
        obtain ⟨u2, rfl⟩ := hw6
        go_wp2
        go_roundw
        case rel => exact ⟨k + 1, by go_num, hlt, HS.out, u2, rfl⟩
        case measure => first | (simp [intOf]; done) | (simp [intOf]; omega)
      · have HS := Lib.hid (show allN (same1 f g) l = false from allN_bad hlt (by rw [HSM.out]; simpa using he))
        have jne : (a != b) = true := by simpa using he
        clear he
        go_wp2
        refine quiet_e (by kernel_rfl) (by kernel_rfl) ?_
        repeat (first | go_big_quiet_step (fail) | quiet_step (fail))
        refine wpQuiet_nil ?_
        intro w6 hw6
        obtain ⟨u2, rfl⟩ := hw6
        go_wp2
        go_ret
        exact ⟨by rw [HS.out]; rfl, HG.out _ ⟨u2, rfl⟩⟩
    · have HK := Lib.hid (show k = l by omega)
      have j : decide ((k : Int) < (l : Int)) = false := by simp; omega
      go_wp2
      go_ret
      exact ⟨by rw [← HK.out, HAL.out]; rfl, HG.out _ ⟨y, rfl⟩⟩
set_option maxRecDepth 100000 in
set_option maxHeartbeats 8000000 in
theorem paradoxP_any (D : Bx) (p q : Option Addr) (c d : Nat) (w : World) (hn : D.n ≤ 40) (hm : D.m ≤ 40) (hi : BxIn w w.heap.size D p q) :
    Calls Try.prog 42 #[.agg #[.slice p D.n c, .slice q D.m d]] w fun e w' => e = .returned (.tuple #[.int .i64 (srV D (pdB D) 40), .int .i64 (srE D (pdB D) 40)]) ∧ Below w.heap.size w w' := by
  obtain ⟨w1, x, hw1, hb1, hz1, F0, F1⟩ := box_bx w p q D.n D.m c d
  have HB := Lib.hid hb1
  have HI : Hid (∀ x : Ext w1, BxIn x.v x.v.heap.size D p q) := fun x => (hi.bel hb1).bel x.b
  clear hb1 hz1 hi
  cases hok : D.ok with
  | false =>
    have hv : srV D (pdB D) 40 = 0 := by unfold srV; rw [hok]; rfl
    have he : srE D (pdB D) 40 = 70 := by unfold srE; rw [hok]; rfl
    rw [hv, he]
    have HC := Lib.hid (show ∀ z : Ext w1, Calls Try.prog 18 #[.agg #[.slice p D.n c, .slice q D.m d]] z.v fun e w' => e = .returned (.int .i64 70) ∧ Below z.v.heap.size z.v w' from fun z => by
      have := checkP_any D p q c d z.v hn hm (HI.out z)
      rw [hok] at this
      exact this)
    clear hv he hok
    go_enter Try.func42, Try.ntmps42
    go_wp2_with fail
    refine (quiet_x (HC.out _)).mono ?_
    rintro e w' ⟨rfl, y, rfl⟩
    go_wp2
    go_ret2
    exact ⟨rfl, bT HB.out y.b⟩
  | true =>
    have hv : srV D (pdB D) 40 = onI (fsN (pdB D) 40) := by unfold srV; rw [hok]; rfl
    have he : srE D (pdB D) 40 = noneE (fsN (pdB D) 40).isSome := by unfold srE; rw [hok]; rfl
    rw [hv, he]
    have HC := Lib.hid (show ∀ z : Ext w1, Calls Try.prog 18 #[.agg #[.slice p D.n c, .slice q D.m d]] z.v fun e w' => e = .returned (.int .i64 0) ∧ Below z.v.heap.size z.v w' from fun z => by
      have := checkP_any D p q c d z.v hn hm (HI.out z)
      rw [hok] at this
      exact this)
    have HOK := Lib.hid hok
    have hn5 := (Bx.ok_parts hok).1
    clear hv he hok
    go_enter Try.func42, Try.ntmps42
    go_wp2_with fail
    refine (quiet_x (HC.out _)).mono ?_
    rintro e w' ⟨rfl, y, rfl⟩
    go_wp2
    clear hw1
    go_loopw [11] (fun i wr => ∃ k : Nat, i = .int .i64 (k : Int) ∧ k ≤ 40 ∧ fsN (pdB D) k = none ∧ ∃ z : Ext w1, wr = z.v) (fun i _ => 40 - (intOf i).toNat)
    case atStart => exact ⟨0, rfl, by omega, rfl, y, rfl⟩
    case round =>
      obtain ⟨k, rfl, hk, hfs, z, rfl⟩ := hrel
      clear y
      have HFS := Lib.hid hfs; clear hfs
      by_cases hlt : k < 40
      · have hkm : (k : Int) < 40 := by omega
        skip
        cases hpb : pdB D k with
        | true =>
          have HR := Lib.hid (show fsN (pdB D) 40 = some k from fsN_hit HFS.out hpb hlt)
          have HC := Lib.hid (show ∀ z : Ext w1, Calls Try.prog 81 #[.agg #[.slice p D.n c, .slice q D.m d], .int .i64 (k : Int)] z.v fun e w' => e = .returned (.bool true) ∧ Below z.v.heap.size z.v w' from fun z => by
            have := isParadox_any D p q c d k z.v HOK.out hlt (HI.out z)
            rw [show pdA D k D.n = true from hpb] at this
            exact this)
          clear hpb
          go_wp2_with fail
          refine (quiet_x (HC.out _)).mono ?_
          rintro e w' ⟨rfl, y2, rfl⟩
          go_wp2
          go_ret2
          exact ⟨by rw [HR.out]; rfl, bT HB.out y2.b⟩
        | false =>
          have HR := Lib.hid (show fsN (pdB D) (k + 1) = none from fsN_miss HFS.out hpb)
          have HC := Lib.hid (show ∀ z : Ext w1, Calls Try.prog 81 #[.agg #[.slice p D.n c, .slice q D.m d], .int .i64 (k : Int)] z.v fun e w' => e = .returned (.bool false) ∧ Below z.v.heap.size z.v w' from fun z => by
            have := isParadox_any D p q c d k z.v HOK.out hlt (HI.out z)
            rw [show pdA D k D.n = false from hpb] at this
            exact this)
          clear hpb
          go_wp2_with fail
          refine (quiet_x (HC.out _)).mono ?_
          rintro e w' ⟨rfl, y2, rfl⟩
          go_wp2
          go_roundw
          case rel => exact ⟨k + 1, by go_num, hlt, HR.out, y2, rfl⟩
          case measure => first | (simp [intOf]; done) | (simp [intOf]; omega)
      · have HR := Lib.hid (show fsN (pdB D) 40 = none from by rw [← show k = 40 by omega]; exact HFS.out)
        have j : decide ((k : Int) < 40) = false := by simp; omega
        skip
        go_wp2
        go_ret2
        exact ⟨by rw [HR.out]; rfl, bT HB.out z.b⟩
set_option maxRecDepth 100000 in
set_option maxHeartbeats 8000000 in
theorem differP_any (D : Bx) (p q : Option Addr) (c d : Nat) (w : World) (hn : D.n ≤ 40) (hm : D.m ≤ 40) (hi : BxIn w w.heap.size D p q) :
    Calls Try.prog 44 #[.agg #[.slice p D.n c, .slice q D.m d]] w fun e w' => e = .returned (.tuple #[.int .i64 (srV D (dfB D) 41), .int .i64 (srE D (dfB D) 41)]) ∧ Below w.heap.size w w' := by
  obtain ⟨w1, x, hw1, hb1, hz1, F0, F1⟩ := box_bx w p q D.n D.m c d
  have HB := Lib.hid hb1
  have HI : Hid (∀ x : Ext w1, BxIn x.v x.v.heap.size D p q) := fun x => (hi.bel hb1).bel x.b
  clear hb1 hz1 hi
  cases hok : D.ok with
  | false =>
    have hv : srV D (dfB D) 41 = 0 := by unfold srV; rw [hok]; rfl
    have he : srE D (dfB D) 41 = 70 := by unfold srE; rw [hok]; rfl
    rw [hv, he]
    have HC := Lib.hid (show ∀ z : Ext w1, Calls Try.prog 18 #[.agg #[.slice p D.n c, .slice q D.m d]] z.v fun e w' => e = .returned (.int .i64 70) ∧ Below z.v.heap.size z.v w' from fun z => by
      have := checkP_any D p q c d z.v hn hm (HI.out z)
      rw [hok] at this
      exact this)
    clear hv he hok
    go_enter Try.func44, Try.ntmps44
    go_wp2_with fail
    refine (quiet_x (HC.out _)).mono ?_
    rintro e w' ⟨rfl, y, rfl⟩
    go_wp2
    go_ret2
    exact ⟨rfl, bT HB.out y.b⟩
  | true =>
    have hv : srV D (dfB D) 41 = onI (fsN (dfB D) 41) := by unfold srV; rw [hok]; rfl
    have he : srE D (dfB D) 41 = noneE (fsN (dfB D) 41).isSome := by unfold srE; rw [hok]; rfl
    rw [hv, he]
    have HC := Lib.hid (show ∀ z : Ext w1, Calls Try.prog 18 #[.agg #[.slice p D.n c, .slice q D.m d]] z.v fun e w' => e = .returned (.int .i64 0) ∧ Below z.v.heap.size z.v w' from fun z => by
      have := checkP_any D p q c d z.v hn hm (HI.out z)
      rw [hok] at this
      exact this)
    have HOK := Lib.hid hok
    have hn5 := (Bx.ok_parts hok).1
    clear hv he hok
    go_enter Try.func44, Try.ntmps44
    go_wp2_with fail
    refine (quiet_x (HC.out _)).mono ?_
    rintro e w' ⟨rfl, y, rfl⟩
    go_wp2
    clear hw1
    go_loopw [11] (fun i wr => ∃ k : Nat, i = .int .i64 (k : Int) ∧ k ≤ 41 ∧ fsN (dfB D) k = none ∧ ∃ z : Ext w1, wr = z.v) (fun i _ => 41 - (intOf i).toNat)
    case atStart => exact ⟨0, rfl, by omega, rfl, y, rfl⟩
    case round =>
      obtain ⟨k, rfl, hk, hfs, z, rfl⟩ := hrel
      clear y
      have HFS := Lib.hid hfs; clear hfs
      by_cases hlt : k < 41
      · have hkm : (k : Int) < 41 := by omega
        skip
        have hdv := fun V => divide_any D p q c d k V HOK.out (by omega)
        have hbr := fun V => byRem_any D p q c d k V HOK.out (by omega)
        have HNQ := Lib.hid (dfB_five HOK.out k)
        have hnq := fun V => neq_five (gv D k) (RM D k) V
        rw [HNQ.out] at hnq
        have HDV := Lib.hid hdv; have HBR := Lib.hid hbr
        clear hdv hbr
        cases hpb : dfB D k with
        | true =>
          have HR := Lib.hid (show fsN (dfB D) 41 = some k from fsN_hit HFS.out hpb hlt)
          rw [hpb] at hnq
          clear hpb
          go_wp2
          refine quiet_e (by kernel_rfl) (by kernel_rfl) ?_
          repeat (first | go_big_quiet_step ((first | (go_at_call 63; exact quiet_x (HDV.out _ (HI.out _))) | (go_at_call 78; exact quiet_x (HBR.out _ (HI.out _))))) | quiet_step ((first | (go_at_call 63; exact quiet_x (HDV.out _ (HI.out _))) | (go_at_call 78; exact quiet_x (HBR.out _ (HI.out _))))))
          refine wpQuiet_nil ?_
          intro w6 hw6
          obtain ⟨y2, rfl⟩ := hw6
          go_wp2
          go_ret2
          exact ⟨by rw [HR.out]; rfl, bT HB.out y2.b⟩
        | false =>
          have HR := Lib.hid (show fsN (dfB D) (k + 1) = none from fsN_miss HFS.out hpb)
          rw [hpb] at hnq
          clear hpb
          go_wp2
          refine quiet_e (by kernel_rfl) (by kernel_rfl) ?_
          repeat (first | go_big_quiet_step ((first | (go_at_call 63; exact quiet_x (HDV.out _ (HI.out _))) | (go_at_call 78; exact quiet_x (HBR.out _ (HI.out _))))) | quiet_step ((first | (go_at_call 63; exact quiet_x (HDV.out _ (HI.out _))) | (go_at_call 78; exact quiet_x (HBR.out _ (HI.out _))))))
          refine wpQuiet_nil ?_
          intro w6 hw6
          obtain ⟨y2, rfl⟩ := hw6
          go_wp2
          go_roundw
          case rel => exact ⟨k + 1, by go_num, hlt, HR.out, y2, rfl⟩
          case measure => first | (simp [intOf]; done) | (simp [intOf]; omega)
      · have HR := Lib.hid (show fsN (dfB D) 41 = none from by rw [← show k = 41 by omega]; exact HFS.out)
        have j : decide ((k : Int) < 41) = false := by simp; omega
        skip
        go_wp2
        go_ret2
        exact ⟨by rw [HR.out]; rfl, bT HB.out z.b⟩
end Go.Proofs.Ythbicbmlbblflaa
