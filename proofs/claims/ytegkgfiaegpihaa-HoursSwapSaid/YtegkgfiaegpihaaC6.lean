/- Rosters of hours: who is moved, of both. -/
import Derived.Test.YtegkgfiaegpihaaC5

set_option linter.unusedSimpArgs false

set_option linter.unusedVariables false

namespace Go.Proofs.Ytegkgfiaegpihaa

open Go.RowKit

def mvd (D : Ro) (f : Nat → Int) (i : Nat) : Int := (((movedL D f D.m).getD i 0 : Nat) : Int)
def lstV (l : List Nat) : List Value := l.map fun i : Nat => .int .i64 (i : Int)
theorem lst_row (l : List Nat) : row1 (fun i => ((l.getD i 0 : Nat) : Int)) l.length = lstV l := by
  apply List.ext_getElem?
  intro i
  rcases Nat.lt_or_ge i l.length with h | h
  · rw [row1_at h]
    simp [lstV, h]
  · rw [List.getElem?_eq_none (by rw [row1_len]; exact h), List.getElem?_eq_none (by simp [lstV]; exact h)]
theorem lst_own {w : World} {base : Nat} {v : Value} {n : Nat} {l : List Nat} (h : w.ownsRow base 3 1 v n (lstV l)) (hn : n = l.length) : ∃ p c, v = .slice p l.length c ∧ NumIn w w.heap.size l.length (fun i => ((l.getD i 0 : Nat) : Int)) p := by
  subst hn
  rw [← lst_row] at h
  exact num_own h
theorem moved_hit {D : Ro} {f : Nat → Int} {k : Nat} (h : 0 < mvP (D.hs k) (f k)) : movedL D f (k + 1) = movedL D f k ++ [k] := by
  show movedL D f k ++ (if 0 < mvP (D.hs k) (f k) then [k] else []) = _
  rw [if_pos h]
theorem moved_miss {D : Ro} {f : Nat → Int} {k : Nat} (h : ¬ 0 < mvP (D.hs k) (f k)) : movedL D f (k + 1) = movedL D f k := by
  show movedL D f k ++ (if 0 < mvP (D.hs k) (f k) then [k] else []) = _
  rw [if_neg h, List.append_nil]
theorem lstV_snoc (l : List Nat) (k : Nat) : lstV (l ++ [k]) = lstV l ++ [.int .i64 (k : Int)] := by simp [lstV]
set_option maxRecDepth 100000 in
set_option maxHeartbeats 8000000 in
theorem movedR_any (D : Ro) (p q lp : Option Addr) (c d lc : Nat) (f : Nat → Int) (w : World) (hD : OkP D) (hr : InH D f) (hi : RoIn w w.heap.size D p q) (hf : NumIn w w.heap.size D.m f lp) :
    Calls Try.prog 26 #[.agg #[.slice p D.n c, .slice q D.m d], .slice lp D.m lc] w fun e w' => ∃ y c', e = .returned (.slice y (movedL D f D.m).length c') ∧ Below w.heap.size w w' ∧ NumIn w' w'.heap.size (movedL D f D.m).length (mvd D f) y := by
  obtain ⟨i3, hi3, hz3, hz3', hz3''⟩ := info_parts infoI
  have I3 := Lib.hid hi3; have Z3 := Lib.hid hz3; have Z3' := Lib.hid hz3'; have Z3'' := Lib.hid hz3''; clear hi3 hz3 hz3' hz3''
  obtain ⟨w1, x, hw1, hb1, hz1, F0, F1, _⟩ := box_ro w p q D.n D.m c d
  have HB := Lib.hid hb1
  have HI : Hid (∀ x : Ext w1, RoIn x.v x.v.heap.size D p q) := fun x => (hi.bel hb1).bel x.b
  have HF : Hid (∀ x : Ext w1, NumIn x.v x.v.heap.size D.m f lp) := fun x => (hf.bel hb1).bel x.b
  have HR := Lib.hid hr; have HD := Lib.hid hD
  clear hb1 hz1 hi hf hr hD
  go_enter Try.func26, Try.ntmps26
  go_wp2
  clear hw1
  go_loopw [5, 6] (fun v i wr => ∃ k : Nat, i = .int .i64 k ∧ k ≤ D.m ∧ Below w1.heap.size w1 wr ∧ wr.ownsRow w1.heap.size 3 1 v (movedL D f k).length (lstV (movedL D f k))) (fun v i _ => D.m - (intOf i).toNat)
  case atStart => exact ⟨0, rfl, Nat.zero_le _, x.b, World.ownsRow_nil _ _ _ 1⟩
  case round =>
    obtain ⟨k, rfl, hk, hbx, ho⟩ := hrel
    have HO := Lib.hid ho; have HBX := Lib.hid hbx; clear ho hbx
    obtain ⟨z, hz⟩ := rebase wr
    have hk6 : k ≤ 6 := by have := HD.out.m; omega
    by_cases hlt : k < D.m
    · obtain ⟨b, o, rfl, _, _⟩ := (HI.out (z.up HBX.out)).st (by omega)
      obtain ⟨b2, o2, rfl, _, _⟩ := (HF.out (z.up HBX.out)) (by omega)
      obtain ⟨pr, cr, rfl, _⟩ := own_form HO.out
      have G0 : ∀ y : Ext wr, y.v.cell? ⟨b, o + k * 4, none⟩ = some (.int .i64 (D.hs k)) := fun y => (HI.out (y.up HBX.out)).c0 hlt
      have G1 : ∀ y : Ext wr, y.v.cell? ⟨b, o + k * 4 + 1, none⟩ = some (.int .i64 (D.fr k)) := fun y => (HI.out (y.up HBX.out)).c1 hlt
      have G2 : ∀ y : Ext wr, y.v.cell? ⟨b, o + k * 4 + 2, none⟩ = some (.int .i64 (D.to k)) := fun y => (HI.out (y.up HBX.out)).c2 hlt
      have G3 : ∀ y : Ext wr, y.v.cell? ⟨b, o + k * 4 + 3, none⟩ = some (.int .i64 (D.co k)) := fun y => (HI.out (y.up HBX.out)).c3 hlt
      have E0 : ∀ y : Ext wr, y.v.cell? ⟨b2, o2 + k, none⟩ = some (.int .i64 (f k)) := fun y => ((HF.out (y.up HBX.out)).cell hlt).2
      have F0' : ∀ y : Ext wr, y.v.cell? ⟨w.heap.size, 0, none⟩ = some (.slice p D.n c) := fun y => F0 (y.up HBX.out)
      have F1' : ∀ y : Ext wr, y.v.cell? ⟨w.heap.size, 1, none⟩ = some (.slice (some ⟨b, o, none⟩) D.m d) := fun y => F1 (y.up HBX.out)
      have j : decide ((k : Int) < (D.m : Int)) = true := by simp; omega
      have hkm : (k : Int) < (D.m : Int) := by omega
      have q1 := hs_bd HD.out hlt; have q2 := HR.out k hlt; have q3 := HD.out.n
      have q4 : -100 ≤ f k ∧ f k ≤ 100 := by omega
      have HQ1 := Lib.hid q1; have HQ4 := Lib.hid q4
      clear q1 q2 q3 q4
      rw [hz]
      go_wp2
      refine quiet_e (by kernel_rfl) (by kernel_rfl) ?_
      repeat (first | go_big_quiet_step ((first | (go_at_call 33; exact quiet_x (moveOfR_any _ _ _ _ _ _ HQ1.out HQ4.out)))) | quiet_step ((first | (go_at_call 33; exact quiet_x (moveOfR_any _ _ _ _ _ _ HQ1.out HQ4.out)))))
      refine wpQuiet_nil ?_
      intro w6 hw6
      obtain ⟨y3, rfl⟩ := hw6
      have HO3 := Lib.hid (own_below HO.out y3.b)
      have HB3 := Lib.hid (bT HBX.out y3.b)
      by_cases hmv : 0 < mvP (D.hs k) (f k)
      · have j5 : decide (0 < mvP (D.hs k) (f k)) = true := by simpa using hmv
        have HM := Lib.hid (moved_hit hmv)
        go_wp2_with (at_builtin; refine wpList_append_own _ rfl _ _ 22 rfl w1.heap.size 3 i3 _ 1 8 Try.underlying22 I3.out Z3.out Z3'.out Z3''.out rfl (by decide) _ _ _ rfl (HO3.out.alloc _) ⟨y3.v.heap.size, 0, none⟩ 1 1 [.int .i64 (k : Int)] rfl rfl (lit_cellsQ _ _ _ _ (by simp)) ?c2 ?c3 ?c4 ?c5 ?_)
        case c2 => simp [Value.oneCell']
        case c3 => have := movedL_len D f k; unfold maxLen; omega
        case c4 => have := movedL_len D f k; omega
        case c5 => have := HB3.out.size; first | omega | (simp; omega)
        intro v' w4 hown hgrow _
        have HB4 : Hid (Below w1.heap.size w1 w4) := below_grown (bA HB3.out _) (HO3.out.alloc _) (Nat.le_refl _) hgrow
        have HOW := Lib.hid (by have := hown; rw [← lstV_snoc, ← HM.out] at this; exact this)
        have HLN := Lib.hid (show (movedL D f k).length + 1 = (movedL D f (k + 1)).length by rw [HM.out]; simp)
        clear hown hgrow
        go_wp2
        go_roundw
        case rel => exact ⟨k + 1, by go_num, hlt, HB4.out, by rw [← HLN.out]; exact HOW.out⟩
        case measure => first | (simp [intOf]; done) | (simp [intOf]; omega)
      · have j5 : decide (0 < mvP (D.hs k) (f k)) = false := by simpa using hmv
        have HM := Lib.hid (moved_miss hmv)
        go_wp2
        go_roundw
        case rel => exact ⟨k + 1, by go_num, hlt, HB3.out, by rw [HM.out]; exact HO3.out⟩
        case measure => first | (simp [intOf]; done) | (simp [intOf]; omega)
    · clear hz
      obtain rfl : k = D.m := by omega
      obtain ⟨pr, cr, rfl, hnum⟩ := lst_own HO.out rfl
      have HN := Lib.hid hnum
      have j : decide ((D.m : Int) < (D.m : Int)) = false := by simp
      clear hnum
      go_wp2
      go_ret
      exact ⟨_, _, rfl, bT HB.out HBX.out, HN.out⟩
def mdL (D : Ro) (l : Nat) (f : Nat → Int) : Nat := if newE D l f = 0 then (movedL D f D.m).length else 0
set_option maxRecDepth 100000 in
set_option maxHeartbeats 2000000 in
theorem movedRR_any (D : Ro) (p q lp : Option Addr) (c d l lc : Nat) (f : Nat → Int) (w : World) (hn : D.n ≤ maxLen) (hm : D.m ≤ maxLen) (hi : RoIn w w.heap.size D p q) (hf : NumIn w w.heap.size l f lp) :
    Calls Try.prog 46 #[.agg #[.slice p D.n c, .slice q D.m d], .slice lp l lc] w fun e w' => ∃ y c', e = .returned (.tuple #[.slice y (mdL D l f) c', .int .i64 (newE D l f)]) ∧ Below w.heap.size w w' ∧ NumIn w' w'.heap.size (mdL D l f) (mvd D f) y := by
  obtain ⟨w1, x1, hw1, hb1, hz1, F0, F1, _⟩ := box_ro w p q D.n D.m c d
  have HB := Lib.hid hb1
  have HI : Hid (∀ x : Ext w1, RoIn x.v x.v.heap.size D p q) := fun x => (hi.bel hb1).bel x.b
  have HF : Hid (∀ x : Ext w1, NumIn x.v x.v.heap.size l f lp) := fun x => (hf.bel hb1).bel x.b
  clear hb1 hz1 hi hf
  by_cases he : newE D l f = 0
  · obtain ⟨hD, hl, hnr⟩ := newE_zero he
    subst hl
    rw [show mdL D D.m f = (movedL D f D.m).length from if_pos he, he]
    have HE := Lib.hid he; have HD := Lib.hid hD; have HH := Lib.hid (hnr.inH hD)
    have j0 : ((0 : Int) != 0) = false := by decide
    clear he hD hnr
    go_enter Try.func46, Try.ntmps46
    go_wp2_with fail
    refine (quiet_x (given_is HE.out _ hn hm (HI.out _) (HF.out _))).mono ?_
    rintro e w' ⟨rfl, y, rfl⟩
    go_wp2_with fail
    refine (movedR_any D p q lp c d lc f _ HD.out HH.out (HI.out _) (HF.out _)).mono ?_
    rintro e w5 ⟨yl, yc, rfl, hb, hnum⟩
    have HB5 := Lib.hid (bT y.b hb); have HN5 := Lib.hid hnum
    clear hb hnum
    go_wp2
    go_ret2
    exact ⟨_, _, rfl, bT HB.out HB5.out, HN5.out⟩
  · obtain ⟨v, hv⟩ : ∃ v, newE D l f = v := ⟨_, rfl⟩
    rw [show mdL D l f = 0 from if_neg he, hv]
    have HE := Lib.hid hv
    have j1 : (v != 0) = true := by rw [hv] at he; simpa using he
    clear he hv
    go_enter Try.func46, Try.ntmps46
    go_wp2_with fail
    refine (quiet_x (given_is HE.out _ hn hm (HI.out _) (HF.out _))).mono ?_
    rintro e w' ⟨rfl, y, rfl⟩
    go_wp2
    go_ret2
    exact ⟨_, _, rfl, bT HB.out y.b, fun h => by omega⟩
set_option maxRecDepth 100000 in
set_option maxHeartbeats 8000000 in
theorem movedPP_any (D : Ro) (p q lp : Option Addr) (c d l lc : Nat) (f : Nat → Int) (w : World) (hn : D.n ≤ maxLen) (hm : D.m ≤ maxLen) (hi : RoIn w w.heap.size D p q) (hf : NumIn w w.heap.size l f lp) :
    Calls Try.prog 45 #[.agg #[.slice p D.n c, .slice q D.m d], .slice lp l lc] w fun e w' => ∃ y c', e = .returned (.tuple #[.slice y (mdL D l f) c', .int .i64 (newE D l f)]) ∧ Below w.heap.size w w' ∧ NumIn w' w'.heap.size (mdL D l f) (mvd D f) y := by
  obtain ⟨i3, hi3, hz3, hz3', hz3''⟩ := info_parts infoI
  have I3 := Lib.hid hi3; have Z3 := Lib.hid hz3; have Z3' := Lib.hid hz3'; have Z3'' := Lib.hid hz3''; clear hi3 hz3 hz3' hz3''
  obtain ⟨w1, x1, hw1, hb1, hz1, F0, F1, _⟩ := box_ro w p q D.n D.m c d
  have HB := Lib.hid hb1
  have HI : Hid (∀ x : Ext w1, RoIn x.v x.v.heap.size D p q) := fun x => (hi.bel hb1).bel x.b
  have HF : Hid (∀ x : Ext w1, NumIn x.v x.v.heap.size l f lp) := fun x => (hf.bel hb1).bel x.b
  clear hb1 hz1 hi hf
  by_cases he : newE D l f = 0
  case neg =>
    obtain ⟨v, hv⟩ : ∃ v, newE D l f = v := ⟨_, rfl⟩
    rw [show mdL D l f = 0 from if_neg he, hv]
    have HE := Lib.hid hv
    have j1 : (v != 0) = true := by rw [hv] at he; simpa using he
    clear he hv
    go_enter Try.func45, Try.ntmps45
    go_wp2_with fail
    refine (quiet_x (checkNew_is HE.out _ hn hm (HI.out _) (HF.out _))).mono ?_
    rintro e w' ⟨rfl, y, rfl⟩
    go_wp2
    go_ret2
    exact ⟨_, _, rfl, bT HB.out y.b, fun h => by omega⟩
  case pos =>
  obtain ⟨hD, hl, hnr⟩ := newE_zero he
  subst hl
  rw [show mdL D D.m f = (movedL D f D.m).length from if_pos he, he]
  have HE := Lib.hid he; have HD := Lib.hid hD; have HR := Lib.hid (hnr.inH hD)
  have j0 : ((0 : Int) != 0) = false := by decide
  clear he hD hnr
  go_enter Try.func45, Try.ntmps45
  go_wp2_with fail
  refine (quiet_x (checkNew_is HE.out _ hn hm (HI.out _) (HF.out _))).mono ?_
  rintro e w' ⟨rfl, x, rfl⟩
  go_wp2
  clear hw1 F0 F1 j0
  go_loopw [7, 19] (fun v i wr => ∃ k : Nat, i = .int .i64 k ∧ k ≤ D.m ∧ Below w1.heap.size w1 wr ∧ wr.ownsRow w1.heap.size 3 1 v (movedL D f k).length (lstV (movedL D f k))) (fun v i _ => D.m - (intOf i).toNat)
  case atStart => exact ⟨0, rfl, Nat.zero_le _, x.b, World.ownsRow_nil _ _ _ 1⟩
  case round =>
    obtain ⟨k, rfl, hk, hbx, ho⟩ := hrel
    have HO := Lib.hid ho; have HBX := Lib.hid hbx; clear ho hbx
    have hk6 : k ≤ 6 := by have := HD.out.m; omega
    by_cases hlt : k < D.m
    · obtain ⟨b, o, rfl, _, hc⟩ := (HI.out ⟨wr, HBX.out⟩).st (by omega)
      obtain ⟨b2, o2, rfl, _, _⟩ := (HF.out ⟨wr, HBX.out⟩) (by omega)
      obtain ⟨pr, cr, rfl, _⟩ := own_form HO.out
      have e0 := hc.c0 k hlt; have e1 := hc.c1 k hlt; have e2 := hc.c2 k hlt; have e3 := hc.c3 k hlt
      clear hc
      obtain ⟨w2, u, hw2, hb2, hz2, G0, G1, G2, G3, _⟩ := box_st wr (D.hs k) (D.fr k) (D.to k) (D.co k)
      have HW2 := Lib.hid hb2
      have E0 : ∀ y : Ext w2, y.v.cell? ⟨b2, o2 + k, none⟩ = some (.int .i64 (f k)) := fun y => ((HF.out ⟨y.v, bT HBX.out (bT hb2 y.b)⟩).cell hlt).2
      have j : decide ((k : Int) < (D.m : Int)) = true := by simp; omega
      have hkm : (k : Int) < (D.m : Int) := by omega
      have q1 := hs_bd HD.out hlt; have q2 := HR.out k hlt; have q3 := HD.out.n
      have q4 : -100 ≤ f k ∧ f k ≤ 100 := by omega
      have HQ1 := Lib.hid q1; have HQ4 := Lib.hid q4
      clear q1 q2 q3 q4 hb2 hz2
      go_wp2
      refine quiet_e (by kernel_rfl) (by kernel_rfl) ?_
      repeat (first | go_big_quiet_step ((first | (go_at_call 84; exact quiet_x (moveOf_any _ _ _ _ _ _ HQ1.out HQ4.out)))) | quiet_step ((first | (go_at_call 84; exact quiet_x (moveOf_any _ _ _ _ _ _ HQ1.out HQ4.out)))))
      refine wpQuiet_nil ?_
      intro w6 hw6
      obtain ⟨y3, rfl⟩ := hw6
      have HO3 := Lib.hid (own_below HO.out (bT HW2.out y3.b))
      have HB3 := Lib.hid (bT HBX.out (bT HW2.out y3.b))
      clear hw2 e0 e1 e2 e3 G0 G1 G2 G3
      by_cases hmv : 0 < mvP (D.hs k) (f k)
      · have j5 : decide (0 < mvP (D.hs k) (f k)) = true := by simpa using hmv
        have HM := Lib.hid (moved_hit hmv)
        go_wp2_with (at_builtin; refine wpList_append_own _ rfl _ _ 22 rfl w1.heap.size 3 i3 _ 1 8 Try.underlying22 I3.out Z3.out Z3'.out Z3''.out rfl (by decide) _ _ _ rfl (HO3.out.alloc _) ⟨y3.v.heap.size, 0, none⟩ 1 1 [.int .i64 (k : Int)] rfl rfl (lit_cellsQ _ _ _ _ (by simp)) ?c2 ?c3 ?c4 ?c5 ?_)
        case c2 => simp [Value.oneCell']
        case c3 => have := movedL_len D f k; unfold maxLen; omega
        case c4 => have := movedL_len D f k; omega
        case c5 => have := HB3.out.size; first | omega | (simp; omega)
        intro v' w4 hown hgrow _
        have HB4 : Hid (Below w1.heap.size w1 w4) := below_grown (bA HB3.out _) (HO3.out.alloc _) (Nat.le_refl _) hgrow
        have HOW := Lib.hid (by have := hown; rw [← lstV_snoc, ← HM.out] at this; exact this)
        have HLN := Lib.hid (show (movedL D f k).length + 1 = (movedL D f (k + 1)).length by rw [HM.out]; simp)
        clear hown hgrow
        go_wp2
        go_roundw
        case rel => exact ⟨k + 1, by go_num, hlt, HB4.out, by rw [← HLN.out]; exact HOW.out⟩
        case measure => first | (simp [intOf]; done) | (simp [intOf]; omega)
      · have j5 : decide (0 < mvP (D.hs k) (f k)) = false := by simpa using hmv
        have HM := Lib.hid (moved_miss hmv)
        go_wp2
        go_roundw
        case rel => exact ⟨k + 1, by go_num, hlt, HB3.out, by rw [HM.out]; exact HO3.out⟩
        case measure => first | (simp [intOf]; done) | (simp [intOf]; omega)
    · obtain rfl : k = D.m := by omega
      obtain ⟨pr, cr, rfl, hnum⟩ := lst_own HO.out rfl
      have HN := Lib.hid hnum
      have j : decide ((D.m : Int) < (D.m : Int)) = false := by simp
      clear hnum
      go_wp2
      go_ret2
      exact ⟨_, _, rfl, bT HB.out HBX.out, HN.out⟩
end Go.Proofs.Ytegkgfiaegpihaa
