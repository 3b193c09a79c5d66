/- MouthsAll returns true in every walk. -/
import Derived.Test.YthbicbmlbblflaaD0

import Derived.Test.YthbicbmlbblflaaC4

import Derived.Test.YthbicbmlbblflaaM2

set_option linter.unusedSimpArgs false

set_option linter.unusedVariables false

namespace Go.Proofs.Ythbicbmlbblflaa

open Go.RowKit

theorem isSome_next {D : Bx} {g : Nat → Int} {k : Nat} : (nxA D g (k + 1)).isSome = ((nxA D g k).isSome || !blk D g k) := by
  cases hb : blk D g k with
  | true => rw [nxA_blk hb]; simp
  | false =>
    cases h2 : nxA D g k with
    | none => rw [nxA_first hb h2]; rfl
    | some c => rw [nxA_btr hb h2]; split <;> rfl
theorem start_b (D : Bx) (p q : Option Addr) (c d : Nat) (w : World) (hi : BxIn w w.heap.size D p q) :
    ∃ (w1 : World) (x1 : Ext w1), w.alloc (Obj.cells #[Value.slice p D.n c, Value.slice q D.m d] 24) = x1.v ∧ Below w.heap.size w w1 ∧ (∀ y : Ext w1, BoxAt y.v w.heap.size D p q c d) ∧ (∀ y : Ext w1, BxIn y.v y.v.heap.size D p q) := by
  obtain ⟨w1, x1, hw1, hb1, hz1, F0, F1⟩ := box_bx w p q D.n D.m c d
  exact ⟨w1, x1, hw1, hb1, fun y => ⟨F0 y, F1 y⟩, fun y => (hi.bel hb1).bel y.b⟩
theorem turn_none {D : Bx} {p q : Option Addr} {c d k : Nat} {w : World} (h : nx D (gv D k) = none) (hok : D.ok = true) (hk : k < 40) (hi : BxIn w w.heap.size D p q) :
    Calls Try.prog 24 #[.agg #[.slice p D.n c, .slice q D.m d], .int .i64 (k : Int)] w fun e w' => e = .returned (.tuple #[.int .i64 0, .int .i64 3]) ∧ Below w.heap.size w w' := by
  have := turnP_ok D p q c d k w hok hk hi
  rw [h] at this
  exact this
theorem turn_some {D : Bx} {p q : Option Addr} {c d k x : Nat} {w : World} (h : nx D (gv D k) = some x) (hok : D.ok = true) (hk : k < 40) (hi : BxIn w w.heap.size D p q) :
    Calls Try.prog 24 #[.agg #[.slice p D.n c, .slice q D.m d], .int .i64 (k : Int)] w fun e w' => e = .returned (.tuple #[.int .i64 (x : Int), .int .i64 0]) ∧ Below w.heap.size w w' := by
  have := turnP_ok D p q c d k w hok hk hi
  rw [h] at this
  exact this
set_option maxRecDepth 100000 in
set_option maxHeartbeats 4000000 in
theorem all_out1 (D : Bx) (p q : Option Addr) (c d : Nat) (fl : Int) (w : World) (hn : D.n ≤ maxLen) (hm : D.m ≤ maxLen) (hi : BxIn w w.heap.size D p q) (hr : rdy D fl = false) :
    Calls Try.prog 7 #[.agg #[.slice p D.n c, .slice q D.m d], .int .i64 fl] w fun e w' => e = .returned (.bool true) ∧ Below w.heap.size w w' := by
  obtain ⟨w1, x1, hw1, hb, hB, hI⟩ := start_b D p q c d w hi
  have HB := Lib.hid hb; have HI := Lib.hid hI; have HR := Lib.hid hr
  have F0 := fun y => (hB y).c0; have F1 := fun y => (hB y).c1
  clear hb hB hI hi hr
  go_enter Try.func7, Try.ntmps7
  go_wp2_with fail
  refine (quiet_x (ready_is HR.out hn hm (HI.out _))).mono ?_
  rintro e w' ⟨rfl, y, rfl⟩
  go_wp2_with fail
  refine (quiet_x (works_ex _)).mono ?_
  rintro e w' ⟨rfl, y2, rfl⟩
  go_wp2
  go_ret
  exact ⟨rfl, bT HB.out y2.b⟩
set_option maxRecDepth 100000 in
set_option maxHeartbeats 4000000 in
theorem all_out2 (D : Bx) (p q : Option Addr) (c d : Nat) (fl : Int) (w : World) (hn : D.n ≤ maxLen) (hm : D.m ≤ maxLen) (hi : BxIn w w.heap.size D p q) (hr : rdy D fl = true) (h4 : fl = 40) :
    Calls Try.prog 7 #[.agg #[.slice p D.n c, .slice q D.m d], .int .i64 fl] w fun e w' => e = .returned (.bool true) ∧ Below w.heap.size w w' := by
  obtain ⟨w1, x1, hw1, hb, hB, hI⟩ := start_b D p q c d w hi
  have HB := Lib.hid hb; have HI := Lib.hid hI; have HR := Lib.hid hr
  have F0 := fun y => (hB y).c0; have F1 := fun y => (hB y).c1
  clear hb hB hI hi hr
  subst h4
  go_enter Try.func7, Try.ntmps7
  go_wp2_with fail
  refine (quiet_x (ready_is HR.out hn hm (HI.out _))).mono ?_
  rintro e w' ⟨rfl, y, rfl⟩
  go_wp2_with fail
  refine (quiet_x (works_ex _)).mono ?_
  rintro e w' ⟨rfl, y2, rfl⟩
  go_wp2
  go_ret
  exact ⟨rfl, bT HB.out y2.b⟩
set_option maxRecDepth 100000 in
set_option maxHeartbeats 16000000 in
theorem all_none (D : Bx) (p q : Option Addr) (c d F : Nat) (w : World) (hi : BxIn w w.heap.size D p q) (hr : rdy D (F : Int) = true) (hok : D.ok = true) (hF : F < 40) (hx : nx D (gv D F) = none) :
    Calls Try.prog 7 #[.agg #[.slice p D.n c, .slice q D.m d], .int .i64 (F : Int)] w fun e w' => e = .returned (.bool true) ∧ Below w.heap.size w w' := by
  obtain ⟨w1, x1, hw1, hb, hB, hI⟩ := start_b D p q c d w hi
  obtain ⟨n4, m4, _, _⟩ := rdy_parts hr
  obtain ⟨o1, o2, o3, o4⟩ := Bx.ok_parts hok
  have hn : D.n ≤ maxLen := by unfold maxLen; omega
  have hm : D.m ≤ maxLen := by unfold maxLen; omega
  have HB := Lib.hid hb; have HI := Lib.hid hI; have HR := Lib.hid hr; have HOK := Lib.hid hok; have HX0 := Lib.hid hx
  have HBX := Lib.hid hB; have HM := Lib.hid o2; have HS3 := Lib.hid o3
  have F0 := fun y => (hB y).c0; have F1 := fun y => (hB y).c1
  have j40 : ((F : Int) == 40) = false := by simp; omega
  have ew1 : IntKind.i64.wrap ((F : Int) + 1) = ((F + 1 : Nat) : Int) := by rw [IntWalk.i64_in _ (by omega)]; rfl
  have h1 := sumN_bd (gv_5' hok F) D.n o1
  have htl := tn_len D F; have htl2 := tn_le D F
  obtain ⟨S, hS⟩ : ∃ S, sumN (gv D F) D.n = S := ⟨_, rfl⟩
  rw [hS] at h1 htl
  obtain ⟨ov, hov⟩ : ∃ ov, (F : Int) - S = ov := ⟨_, rfl⟩
  have HOV := Lib.hid (show ∀ V : World, BxIn V V.heap.size D p q → Calls Try.prog 22 #[.agg #[.slice p D.n c, .slice q D.m d], .int .i64 (F : Int)] V fun e w' => e = .returned (.tuple #[.int .i64 ov, .int .i64 0]) ∧ Below V.heap.size V w' from fun V h => by
    have := overP_ok D p q c d F V hok (by omega) h
    rw [hS, hov] at this
    exact this)
  have HSM := Lib.hid (show ∀ (V : World) (a : Option Addr) (cc : Nat), NumIn V V.heap.size D.n (gv D F) a → Calls Try.prog 49 #[.slice a D.n cc] V fun e w' => e = .returned (.int .i64 S) ∧ V = w' from fun V a cc h => by
    have := sumR_any D.n cc (gv D F) a V (by omega) (fun i hi => gv_5' hok F i (by omega)) h
    rw [hS] at this
    exact this)
  have jo1 : decide (ov < 0) = false := by simp; omega
  have jo2 : decide ((F : Int) < ov) = false := by simp; omega
  have ew2 : IntKind.i64.wrap (S + ov) = (F : Int) := by rw [IntWalk.i64_in _ (by omega)]; omega
  have kE : knownE 3 = true := rfl
  have HKN := Lib.hid (show ∀ V : World, Calls Try.prog 48 #[.int .i64 3] V fun e w' => e = .returned (.bool true) ∧ V = w' from fun V => isKnown_any 3 V)
  have hlt40 : F + 1 ≤ 40 := by omega


  clear hb hB hI hi hr hok o2 o3 o4 h1 htl htl2 hS hov kE hx
  go_enter Try.func7, Try.ntmps7
  go_wp2_with fail
  refine (quiet_x (ready_is HR.out hn hm (HI.out _))).mono ?_
  rintro e w' ⟨rfl, y, rfl⟩
  go_wp2_with fail
  refine (gaugesL_any D p q c d F _ HOK.out (by omega) (HI.out _)).mono ?_
  rintro e wa ⟨ga, gac, rfl, hca⟩
  have HXA := Lib.hid (bT y.b hca.below); have HCA := Lib.hid hca
  obtain ⟨za, hza⟩ := rebase wa
  have HIa : Hid (∀ z : Ext wa, BxIn z.v z.v.heap.size D p q) := fun z => HI.out (z.up HXA.out)
  have F0a : ∀ z : Ext wa, z.v.cell? ⟨w.heap.size, 0, none⟩ = some (.slice p D.n c) := fun z => (HBX.out (z.up HXA.out)).c0
  have F1a : ∀ z : Ext wa, z.v.cell? ⟨w.heap.size, 1, none⟩ = some (.slice q D.m d) := fun z => (HBX.out (z.up HXA.out)).c1
  clear hca F0 F1 hw1
  rw [hza]; clear hza
  go_wp2_with fail
  refine (gaugesL_any D p q c d (F + 1) _ HOK.out hlt40 (HIa.out _)).mono ?_
  rintro e wb ⟨gb, gbc, rfl, hcb⟩
  have HXB := Lib.hid (bT za.b hcb.below); have HCB := Lib.hid hcb
  obtain ⟨zb, hzb⟩ := rebase wb
  have HIb : Hid (∀ z : Ext wb, BxIn z.v z.v.heap.size D p q) := fun z => HIa.out (z.up HXB.out)
  have F0b : ∀ z : Ext wb, z.v.cell? ⟨w.heap.size, 0, none⟩ = some (.slice p D.n c) := fun z => F0a (z.up HXB.out)
  have F1b : ∀ z : Ext wb, z.v.cell? ⟨w.heap.size, 1, none⟩ = some (.slice q D.m d) := fun z => F1a (z.up HXB.out)
  clear hcb F0a F1a
  rw [hzb]; clear hzb
  go_wp2_with fail
  refine (quiet_x (HOV.out _ (HIb.out _))).mono ?_
  rintro e w' ⟨rfl, yo, rfl⟩
  go_wp2_with fail
  refine (quiet_x (turn_none HX0.out HOK.out hF (HIb.out _))).mono ?_
  rintro e w' ⟨rfl, yt, rfl⟩
  go_wp2_with fail
  refine (HKN.out _).mono ?_
  rintro e w' ⟨rfl, rfl⟩
  go_wp2_with fail
  refine (HSM.out _ _ _ (HCA.out.num.bel (bT HXB.out yt.b))).mono ?_
  rintro e w' ⟨rfl, rfl⟩
  go_wp2
  clear ew1 ew2 jo1 jo2 j40
  have HBB : Hid (∀ z : Ext wb, Below w.heap.size w z.v) := fun z => bT HB.out (bT HXA.out (bT HXB.out z.b))
  go_loopw [14, 13] (fun i r wr => ∃ k : Nat, i = .int .i64 k ∧ r = .bool (nxA D (gv D F) k).isSome ∧ k ≤ D.n ∧ ∃ z : Ext wb, wr = z.v) (fun i _ _ => D.n - (intOf i).toNat)
  case atStart => exact ⟨0, rfl, rfl, Nat.zero_le _, yt, rfl⟩
  case round =>
    obtain ⟨k, rfl, rfl, hk, z, rfl⟩ := hrel
    by_cases hlt : k < D.n
    · obtain ⟨g, rfl, _, _, _, _⟩ := HCA.out.here (by omega)
      obtain ⟨b1, of1, rfl, _, _⟩ := (HIb.out z).s (by omega)
      obtain ⟨b2, of2, rfl, _, _⟩ := (HIb.out z).o (by have := HM.out; omega)
      have E0 : ∀ z : Ext wb, z.v.cell? ⟨b1, of1 + k, none⟩ = some (.int .i64 (D.sh k)) := fun z => ((HIb.out z).s.cell hlt).2
      have E1 : ∀ z : Ext wb, z.v.cell? ⟨b2, of2 + k, none⟩ = some (.int .i64 (D.mo k)) := fun z => ((HIb.out z).o.cell (by have := HM.out; omega)).2
      have E2 : ∀ z : Ext wb, z.v.cell? ⟨g, k, none⟩ = some (.int .i64 (gv D F k)) := fun z => by have := ((HCA.out.num.bel (bT HXB.out z.b)).cell hlt).2; rwa [Nat.zero_add] at this
      have hkm : (k : Int) < (D.n : Int) := by omega
      have hkm2 : (k : Int) < (D.m : Int) := by have := HM.out; omega
      have HN := Lib.hid (isSome_next (D := D) (g := gv D F) (k := k))
      cases hs : (nxA D (gv D F) k).isSome with
      | true =>
        have HS := Lib.hid hs; clear hs
        go_wp2
        refine quiet_e (by kernel_rfl) (by kernel_rfl) ?_
        repeat (first | go_big_quiet_step (fail) | quiet_step (fail))
        refine wpQuiet_nil ?_
        intro w6 hw6
        obtain ⟨y2, rfl⟩ := hw6
        go_wp2
        go_roundw
        case rel => exact ⟨k + 1, by go_num, by rw [HN.out, HS.out]; rfl, hlt, y2, rfl⟩
        case measure => first | (simp [intOf]; done) | (simp [intOf]; omega)
      | false =>
        have HS := Lib.hid hs; clear hs
        obtain ⟨v1, v2, v3, v4⟩ := gv_bd HOK.out F k
        have v5 := HS3.out k hlt
        by_cases s0 : 0 < D.sh k
        · have j0 : decide (0 < D.sh k) = true := by simpa using s0
          by_cases s1 : gv D F k < D.mo k
          · have j1 : decide (gv D F k < D.mo k) = true := by simpa using s1
            have HK := Lib.hid (show blk D (gv D F) k = false from blk_mk (by omega) (by omega))
            clear s0 s1 v1 v2 v3 v4 v5
            go_wp2
            refine quiet_e (by kernel_rfl) (by kernel_rfl) ?_
            repeat (first | go_big_quiet_step (fail) | quiet_step (fail))
            refine wpQuiet_nil ?_
            intro w6 hw6
            obtain ⟨y2, rfl⟩ := hw6
            go_wp2
            go_roundw
            case rel => exact ⟨k + 1, by go_num, by rw [HN.out, HS.out, HK.out]; rfl, hlt, y2, rfl⟩
            case measure => first | (simp [intOf]; done) | (simp [intOf]; omega)
          · have j1 : decide (gv D F k < D.mo k) = false := by simpa using s1
            have HK := Lib.hid (show blk D (gv D F) k = true by have := v2 hlt; simp [blk, show gv D F k = D.mo k by omega])
            clear s0 s1 v1 v2 v3 v4 v5
            go_wp2
            refine quiet_e (by kernel_rfl) (by kernel_rfl) ?_
            repeat (first | go_big_quiet_step (fail) | quiet_step (fail))
            refine wpQuiet_nil ?_
            intro w6 hw6
            obtain ⟨y2, rfl⟩ := hw6
            go_wp2
            go_roundw
            case rel => exact ⟨k + 1, by go_num, by rw [HN.out, HS.out, HK.out]; rfl, hlt, y2, rfl⟩
            case measure => first | (simp [intOf]; done) | (simp [intOf]; omega)
        · have j0 : decide (0 < D.sh k) = false := by simpa using s0
          have HK := Lib.hid (show blk D (gv D F) k = true by simp [blk, show D.sh k = 0 by omega])
          clear s0 v1 v2 v3 v4 v5
          go_wp2
          refine quiet_e (by kernel_rfl) (by kernel_rfl) ?_
          repeat (first | go_big_quiet_step (fail) | quiet_step (fail))
          refine wpQuiet_nil ?_
          intro w6 hw6
          obtain ⟨y2, rfl⟩ := hw6
          go_wp2
          go_roundw
          case rel => exact ⟨k + 1, by go_num, by rw [HN.out, HS.out, HK.out]; rfl, hlt, y2, rfl⟩
          case measure => first | (simp [intOf]; done) | (simp [intOf]; omega)
    · have j : decide ((k : Int) < (D.n : Int)) = false := by simp; omega
      have hkn : nxA D (gv D F) k = none := by rw [show k = D.n by omega]; exact HX0.out
      have hs : (nxA D (gv D F) k).isSome = false := by rw [hkn]; rfl
      clear hkn
      go_wp2



      clear hs j hlt hk
      go_loopw [15] (fun i wr => ∃ k : Nat, i = .int .i64 k ∧ k ≤ D.n ∧ ∃ z : Ext wb, wr = z.v) (fun i _ => D.n - (intOf i).toNat)
      case atStart => exact ⟨0, rfl, Nat.zero_le _, z, rfl⟩
      case round =>
        obtain ⟨k2, rfl, hk, z2, rfl⟩ := hrel
        by_cases hlt : k2 < D.n
        · obtain ⟨g, rfl, _, _, _, _⟩ := HCA.out.here (by omega)
          obtain ⟨g2, rfl, _, _, _, _⟩ := HCB.out.here (by omega)
          have E2 : ∀ z : Ext wb, z.v.cell? ⟨g, k2, none⟩ = some (.int .i64 (gv D F k2)) := fun z => by have := ((HCA.out.num.bel (bT HXB.out z.b)).cell hlt).2; rwa [Nat.zero_add] at this
          have E3 : ∀ z : Ext wb, z.v.cell? ⟨g2, k2, none⟩ = some (.int .i64 (gv D (F + 1) k2)) := fun z => by have := ((HCB.out.num.bel z.b).cell hlt).2; rwa [Nat.zero_add] at this
          have hkm : (k2 : Int) < (D.n : Int) := by omega
          have hgn : gv D (F + 1) k2 = gv D F k2 := by rw [(nx_none_next HX0.out).1]
          rw [hgn] at E3
          clear hgn
          go_wp2
          go_roundw
          case rel => exact ⟨k2 + 1, by go_num, hlt, z2, rfl⟩
          case measure => first | (simp [intOf]; done) | (simp [intOf]; omega)
        · have j : decide ((k2 : Int) < (D.n : Int)) = false := by simp; omega
          go_wp2_with fail
          refine (quiet_x (works_ex _)).mono ?_
          rintro e w' ⟨rfl, yw, rfl⟩
          go_wp2
          go_ret
          exact ⟨rfl, HBB.out yw⟩
set_option maxRecDepth 100000 in
set_option maxHeartbeats 16000000 in
theorem all_some (D : Bx) (p q : Option Addr) (c d F x : Nat) (w : World) (hi : BxIn w w.heap.size D p q) (hr : rdy D (F : Int) = true) (hok : D.ok = true) (hF : F < 40) (hx : nx D (gv D F) = some x) :
    Calls Try.prog 7 #[.agg #[.slice p D.n c, .slice q D.m d], .int .i64 (F : Int)] w fun e w' => e = .returned (.bool true) ∧ Below w.heap.size w w' := by
  obtain ⟨w1, x1, hw1, hb, hB, hI⟩ := start_b D p q c d w hi
  obtain ⟨n4, m4, _, _⟩ := rdy_parts hr
  obtain ⟨o1, o2, o3, o4⟩ := Bx.ok_parts hok
  have hn : D.n ≤ maxLen := by unfold maxLen; omega
  have hm : D.m ≤ maxLen := by unfold maxLen; omega
  have HB := Lib.hid hb; have HI := Lib.hid hI; have HR := Lib.hid hr; have HOK := Lib.hid hok; have HX0 := Lib.hid hx
  have HBX := Lib.hid hB; have HM := Lib.hid o2; have HS3 := Lib.hid o3
  have F0 := fun y => (hB y).c0; have F1 := fun y => (hB y).c1
  have j40 : ((F : Int) == 40) = false := by simp; omega
  have ew1 : IntKind.i64.wrap ((F : Int) + 1) = ((F + 1 : Nat) : Int) := by rw [IntWalk.i64_in _ (by omega)]; rfl
  have h1 := sumN_bd (gv_5' hok F) D.n o1
  have htl := tn_len D F; have htl2 := tn_le D F
  obtain ⟨S, hS⟩ : ∃ S, sumN (gv D F) D.n = S := ⟨_, rfl⟩
  rw [hS] at h1 htl
  obtain ⟨ov, hov⟩ : ∃ ov, (F : Int) - S = ov := ⟨_, rfl⟩
  have HOV := Lib.hid (show ∀ V : World, BxIn V V.heap.size D p q → Calls Try.prog 22 #[.agg #[.slice p D.n c, .slice q D.m d], .int .i64 (F : Int)] V fun e w' => e = .returned (.tuple #[.int .i64 ov, .int .i64 0]) ∧ Below V.heap.size V w' from fun V h => by
    have := overP_ok D p q c d F V hok (by omega) h
    rw [hS, hov] at this
    exact this)
  have HSM := Lib.hid (show ∀ (V : World) (a : Option Addr) (cc : Nat), NumIn V V.heap.size D.n (gv D F) a → Calls Try.prog 49 #[.slice a D.n cc] V fun e w' => e = .returned (.int .i64 S) ∧ V = w' from fun V a cc h => by
    have := sumR_any D.n cc (gv D F) a V (by omega) (fun i hi => gv_5' hok F i (by omega)) h
    rw [hS] at this
    exact this)
  have jo1 : decide (ov < 0) = false := by simp; omega
  have jo2 : decide ((F : Int) < ov) = false := by simp; omega
  have ew2 : IntKind.i64.wrap (S + ov) = (F : Int) := by rw [IntWalk.i64_in _ (by omega)]; omega
  have kE : knownE 0 = true := rfl
  have HKN := Lib.hid (show ∀ V : World, Calls Try.prog 48 #[.int .i64 0] V fun e w' => e = .returned (.bool true) ∧ V = w' from fun V => isKnown_any 0 V)
  have hlt40 : F + 1 ≤ 40 := by omega
  have hxn := (nx_lt hx).1
  have HQI := Lib.hid (show isQ D (x : Int) = true from isQ_iff.2 ⟨by omega, by omega⟩)
  clear hb hB hI hi hr hok o2 o3 o4 h1 htl htl2 hS hov kE hx
  go_enter Try.func7, Try.ntmps7
  go_wp2_with fail
  refine (quiet_x (ready_is HR.out hn hm (HI.out _))).mono ?_
  rintro e w' ⟨rfl, y, rfl⟩
  go_wp2_with fail
  refine (gaugesL_any D p q c d F _ HOK.out (by omega) (HI.out _)).mono ?_
  rintro e wa ⟨ga, gac, rfl, hca⟩
  have HXA := Lib.hid (bT y.b hca.below); have HCA := Lib.hid hca
  obtain ⟨za, hza⟩ := rebase wa
  have HIa : Hid (∀ z : Ext wa, BxIn z.v z.v.heap.size D p q) := fun z => HI.out (z.up HXA.out)
  have F0a : ∀ z : Ext wa, z.v.cell? ⟨w.heap.size, 0, none⟩ = some (.slice p D.n c) := fun z => (HBX.out (z.up HXA.out)).c0
  have F1a : ∀ z : Ext wa, z.v.cell? ⟨w.heap.size, 1, none⟩ = some (.slice q D.m d) := fun z => (HBX.out (z.up HXA.out)).c1
  clear hca F0 F1 hw1
  rw [hza]; clear hza
  go_wp2_with fail
  refine (gaugesL_any D p q c d (F + 1) _ HOK.out hlt40 (HIa.out _)).mono ?_
  rintro e wb ⟨gb, gbc, rfl, hcb⟩
  have HXB := Lib.hid (bT za.b hcb.below); have HCB := Lib.hid hcb
  obtain ⟨zb, hzb⟩ := rebase wb
  have HIb : Hid (∀ z : Ext wb, BxIn z.v z.v.heap.size D p q) := fun z => HIa.out (z.up HXB.out)
  have F0b : ∀ z : Ext wb, z.v.cell? ⟨w.heap.size, 0, none⟩ = some (.slice p D.n c) := fun z => F0a (z.up HXB.out)
  have F1b : ∀ z : Ext wb, z.v.cell? ⟨w.heap.size, 1, none⟩ = some (.slice q D.m d) := fun z => F1a (z.up HXB.out)
  clear hcb F0a F1a
  rw [hzb]; clear hzb
  go_wp2_with fail
  refine (quiet_x (HOV.out _ (HIb.out _))).mono ?_
  rintro e w' ⟨rfl, yo, rfl⟩
  go_wp2_with fail
  refine (quiet_x (turn_some HX0.out HOK.out hF (HIb.out _))).mono ?_
  rintro e w' ⟨rfl, yt, rfl⟩
  go_wp2_with fail
  refine (HKN.out _).mono ?_
  rintro e w' ⟨rfl, rfl⟩
  go_wp2_with fail
  refine (HSM.out _ _ _ (HCA.out.num.bel (bT HXB.out yt.b))).mono ?_
  rintro e w' ⟨rfl, rfl⟩
  go_wp2
  clear ew1 ew2 jo1 jo2 j40
  have HBB : Hid (∀ z : Ext wb, Below w.heap.size w z.v) := fun z => bT HB.out (bT HXA.out (bT HXB.out z.b))
  go_loopw [14, 13] (fun i r wr => ∃ k : Nat, i = .int .i64 k ∧ r = .bool (nxA D (gv D F) k).isSome ∧ k ≤ D.n ∧ ∃ z : Ext wb, wr = z.v) (fun i _ _ => D.n - (intOf i).toNat)
  case atStart => exact ⟨0, rfl, rfl, Nat.zero_le _, yt, rfl⟩
  case round =>
    obtain ⟨k, rfl, rfl, hk, z, rfl⟩ := hrel
    by_cases hlt : k < D.n
    · obtain ⟨g, rfl, _, _, _, _⟩ := HCA.out.here (by omega)
      obtain ⟨b1, of1, rfl, _, _⟩ := (HIb.out z).s (by omega)
      obtain ⟨b2, of2, rfl, _, _⟩ := (HIb.out z).o (by have := HM.out; omega)
      have E0 : ∀ z : Ext wb, z.v.cell? ⟨b1, of1 + k, none⟩ = some (.int .i64 (D.sh k)) := fun z => ((HIb.out z).s.cell hlt).2
      have E1 : ∀ z : Ext wb, z.v.cell? ⟨b2, of2 + k, none⟩ = some (.int .i64 (D.mo k)) := fun z => ((HIb.out z).o.cell (by have := HM.out; omega)).2
      have E2 : ∀ z : Ext wb, z.v.cell? ⟨g, k, none⟩ = some (.int .i64 (gv D F k)) := fun z => by have := ((HCA.out.num.bel (bT HXB.out z.b)).cell hlt).2; rwa [Nat.zero_add] at this
      have hkm : (k : Int) < (D.n : Int) := by omega
      have hkm2 : (k : Int) < (D.m : Int) := by have := HM.out; omega
      have HN := Lib.hid (isSome_next (D := D) (g := gv D F) (k := k))
      cases hs : (nxA D (gv D F) k).isSome with
      | true =>
        have HS := Lib.hid hs; clear hs
        go_wp2
        refine quiet_e (by kernel_rfl) (by kernel_rfl) ?_
        repeat (first | go_big_quiet_step (fail) | quiet_step (fail))
        refine wpQuiet_nil ?_
        intro w6 hw6
        obtain ⟨y2, rfl⟩ := hw6
        go_wp2
        go_roundw
        case rel => exact ⟨k + 1, by go_num, by rw [HN.out, HS.out]; rfl, hlt, y2, rfl⟩
        case measure => first | (simp [intOf]; done) | (simp [intOf]; omega)
      | false =>
        have HS := Lib.hid hs; clear hs
        obtain ⟨v1, v2, v3, v4⟩ := gv_bd HOK.out F k
        have v5 := HS3.out k hlt
        by_cases s0 : 0 < D.sh k
        · have j0 : decide (0 < D.sh k) = true := by simpa using s0
          by_cases s1 : gv D F k < D.mo k
          · have j1 : decide (gv D F k < D.mo k) = true := by simpa using s1
            have HK := Lib.hid (show blk D (gv D F) k = false from blk_mk (by omega) (by omega))
            clear s0 s1 v1 v2 v3 v4 v5
            go_wp2
            refine quiet_e (by kernel_rfl) (by kernel_rfl) ?_
            repeat (first | go_big_quiet_step (fail) | quiet_step (fail))
            refine wpQuiet_nil ?_
            intro w6 hw6
            obtain ⟨y2, rfl⟩ := hw6
            go_wp2
            go_roundw
            case rel => exact ⟨k + 1, by go_num, by rw [HN.out, HS.out, HK.out]; rfl, hlt, y2, rfl⟩
            case measure => first | (simp [intOf]; done) | (simp [intOf]; omega)
          · have j1 : decide (gv D F k < D.mo k) = false := by simpa using s1
            have HK := Lib.hid (show blk D (gv D F) k = true by have := v2 hlt; simp [blk, show gv D F k = D.mo k by omega])
            clear s0 s1 v1 v2 v3 v4 v5
            go_wp2
            refine quiet_e (by kernel_rfl) (by kernel_rfl) ?_
            repeat (first | go_big_quiet_step (fail) | quiet_step (fail))
            refine wpQuiet_nil ?_
            intro w6 hw6
            obtain ⟨y2, rfl⟩ := hw6
            go_wp2
            go_roundw
            case rel => exact ⟨k + 1, by go_num, by rw [HN.out, HS.out, HK.out]; rfl, hlt, y2, rfl⟩
            case measure => first | (simp [intOf]; done) | (simp [intOf]; omega)
        · have j0 : decide (0 < D.sh k) = false := by simpa using s0
          have HK := Lib.hid (show blk D (gv D F) k = true by simp [blk, show D.sh k = 0 by omega])
          clear s0 v1 v2 v3 v4 v5
          go_wp2
          refine quiet_e (by kernel_rfl) (by kernel_rfl) ?_
          repeat (first | go_big_quiet_step (fail) | quiet_step (fail))
          refine wpQuiet_nil ?_
          intro w6 hw6
          obtain ⟨y2, rfl⟩ := hw6
          go_wp2
          go_roundw
          case rel => exact ⟨k + 1, by go_num, by rw [HN.out, HS.out, HK.out]; rfl, hlt, y2, rfl⟩
          case measure => first | (simp [intOf]; done) | (simp [intOf]; omega)
    · have j : decide ((k : Int) < (D.n : Int)) = false := by simp; omega
      have hkn : nxA D (gv D F) k = some x := by rw [show k = D.n by omega]; exact HX0.out
      have hs : (nxA D (gv D F) k).isSome = true := by rw [hkn]; rfl
      clear hkn
      go_wp2_with fail
      refine (quiet_x (isQR_is HQI.out n4)).mono ?_
      rintro e w' ⟨rfl, yi, rfl⟩
      go_wp2
      clear hs j hlt hk
      go_loopw [15] (fun i wr => ∃ k : Nat, i = .int .i64 k ∧ k ≤ D.n ∧ ∃ z : Ext wb, wr = z.v) (fun i _ => D.n - (intOf i).toNat)
      case atStart => exact ⟨0, rfl, Nat.zero_le _, yi, rfl⟩
      case round =>
        obtain ⟨k2, rfl, hk, z2, rfl⟩ := hrel
        by_cases hlt : k2 < D.n
        · obtain ⟨g, rfl, _, _, _, _⟩ := HCA.out.here (by omega)
          obtain ⟨g2, rfl, _, _, _, _⟩ := HCB.out.here (by omega)
          have E2 : ∀ z : Ext wb, z.v.cell? ⟨g, k2, none⟩ = some (.int .i64 (gv D F k2)) := fun z => by have := ((HCA.out.num.bel (bT HXB.out z.b)).cell hlt).2; rwa [Nat.zero_add] at this
          have E3 : ∀ z : Ext wb, z.v.cell? ⟨g2, k2, none⟩ = some (.int .i64 (gv D (F + 1) k2)) := fun z => by have := ((HCB.out.num.bel z.b).cell hlt).2; rwa [Nat.zero_add] at this
          have hkm : (k2 : Int) < (D.n : Int) := by omega
          by_cases hkx : k2 = x
          · have hgn : gv D (F + 1) k2 = gv D F k2 + 1 := by rw [(nx_some_next HX0.out).1, hkx]; exact up_same _ _
            rw [hgn] at E3
            have hbd := gv_5 HOK.out F k2 (by omega)
            have ew : IntKind.i64.wrap (gv D F k2 + 1) = gv D F k2 + 1 := IntWalk.i64_in _ (by omega)
            subst hkx
            clear hgn hbd
            go_wp2
            go_roundw
            case rel => exact ⟨k2 + 1, by go_num, hlt, z2, rfl⟩
            case measure => first | (simp [intOf]; done) | (simp [intOf]; omega)
          · have hgn : gv D (F + 1) k2 = gv D F k2 := by rw [(nx_some_next HX0.out).1]; exact up_ne _ hkx
            rw [hgn] at E3
            have jx : ((k2 : Int) == (x : Int)) = false := by simp; omega
            clear hgn hkx
            go_wp2
            go_roundw
            case rel => exact ⟨k2 + 1, by go_num, hlt, z2, rfl⟩
            case measure => first | (simp [intOf]; done) | (simp [intOf]; omega)
        · have j : decide ((k2 : Int) < (D.n : Int)) = false := by simp; omega
          go_wp2_with fail
          refine (quiet_x (works_ex _)).mono ?_
          rintro e w' ⟨rfl, yw, rfl⟩
          go_wp2
          go_ret
          exact ⟨rfl, HBB.out yw⟩
theorem all_law (D : Bx) (p q : Option Addr) (c d : Nat) (fl : Int) (w : World) (hn : D.n ≤ maxLen) (hm : D.m ≤ maxLen) (hi : BxIn w w.heap.size D p q) :
    Calls Try.prog 7 #[.agg #[.slice p D.n c, .slice q D.m d], .int .i64 fl] w fun e w' => e = .returned (.bool true) ∧ Below w.heap.size w w' := by
  cases hr : rdy D fl with
  | false => exact all_out1 D p q c d fl w hn hm hi hr
  | true =>
  by_cases h4 : fl = 40
  · exact all_out2 D p q c d fl w hn hm hi hr h4
  obtain ⟨_, _, hok, F, rfl, hF⟩ := rdy_parts hr
  cases hx : nx D (gv D F) with
  | none => exact all_none D p q c d F w hi hr hok (by omega) hx
  | some x => exact all_some D p q c d F x w hi hr hok (by omega) hx
end Go.Proofs.Ythbicbmlbblflaa
