/- A town at work: draws; by how much all wells lower a well; who lowers it the most in each world that is left, by the program. -/
import Derived.Test.YtdjkbpenppdnlaaDoorG7

import Derived.WalkMore

set_option linter.unusedSimpArgs false

set_option linter.unusedVariables false

namespace Go.Proofs.YtdjkbpenppdnlaaDoor

open Go.RowKit

/-- draws of a town -/
def Tn.drw (T : Tn) (m : Nat) (d : Nat → Int) : Bool := decide ((m : Int) = T.wn) && allN (fun q => within (d q) 0 9) m
theorem drw_parts {T : Tn} {m : Nat} {d : Nat → Int} (h : T.drw m d = true) : (m : Int) = T.wn ∧ ∀ q, q < m → 0 ≤ d q ∧ d q ≤ 9 := by
  simp only [Tn.drw, Bool.and_eq_true, decide_eq_true_eq] at h
  exact ⟨h.1, fun q hq => within_iff.1 (allN_iff.1 h.2 q hq)⟩
theorem areDrawsP_is {T : Tn} {A : Adr} {m c : Nat} {d : Nat → Int} {p : Option Addr} {b : Bool} (hb : T.drw m d = b) (w : World) (hm : m ≤ maxLen) (h : At w w.heap.size p m 1 (fun q => .int .i64 (d q))) :
    Calls Tryd.prog 85 #[.agg #[.int .i64 T.wn, .slice A.wp T.nw A.wc, .slice A.fp T.nf A.fc], .slice p m c] w fun e w' => e = .returned (.bool b) ∧ Below w.heap.size w w' := by
  obtain ⟨w1, x, hw1, hb1, hz1, F0, F1, F2, _⟩ := box_tn w T.wn A.wp A.fp T.nw A.wc T.nf A.fc
  have HB := Lib.hid hb1
  have HU := Lib.hid (areUpTo_any m c d p T.wn 9 x.v hm (h.bel (bT hb1 x.b)))
  have HBB := Lib.hid (show (decide ((m : Int) = T.wn) && allN (fun k => within (d k) 0 9) m) = b from hb)
  have f0 := F0 x
  clear hb1 hz1 hb hm h F0 F1 F2
  go_enter Tryd.func85, Tryd.ntmps85
  go_wp2_with fail
  refine HU.out.mono ?_
  rintro e w' ⟨rfl, hb⟩
  have HB2 := Lib.hid (bT HB.out (bT x.b hb))
  clear hb
  go_wp2
  go_ret
  exact ⟨ret_b HBB.out, HB2.out⟩
theorem mul_bd {a b : Int} (ha : 0 ≤ a ∧ a ≤ 9) (hb : 0 ≤ b ∧ b ≤ 9) : 0 ≤ a * b ∧ a * b ≤ 81 := by
  have h1 : 0 ≤ a * b := Int.mul_nonneg ha.1 hb.1
  have h2 : a * b ≤ 9 * 9 := Int.mul_le_mul ha.2 hb.2 hb.1 (by omega)
  omega
set_option maxRecDepth 100000 in
set_option maxHeartbeats 4000000 in
theorem tot1_any (T : Tn) (A : Adr) (g j b1 b2 b3 k m c : Nat) (d : Nat → Int) (p : Option Addr) (W : World) (hok : T.ok = true) (hk : k < T.nw) (hj : (j : Int) < T.wn) (hd : T.drw m d = true) (hT : TnIn W W.heap.size T A) (hW : WkIn W g T A) (hp : At W W.heap.size p m 1 (fun q => .int .i64 (d q)))
    (h1 : W.cell? ⟨b1, 0, none⟩ = some (.slice p m c)) (h2 : W.cell? ⟨b2, 0, none⟩ = some (.pointer (some ⟨g, 0, none⟩))) (h3 : W.cell? ⟨b3, 0, none⟩ = some (.int .i64 (j : Int))) :
    Calls Tryd.prog 119 (#[.int .i64 (k : Int)] ++ #[.pointer (some ⟨b1, 0, none⟩), .pointer (some ⟨b2, 0, none⟩), .pointer (some ⟨b3, 0, none⟩)]) W fun e W' => e = .returned (.int .i64 (T.low k d (j : Int))) ∧ Below W.heap.size W W' := by
  show Calls Tryd.prog 119 #[.int .i64 (k : Int), .pointer (some ⟨b1, 0, none⟩), .pointer (some ⟨b2, 0, none⟩), .pointer (some ⟨b3, 0, none⟩)] W _
  obtain ⟨hm, hdb⟩ := drw_parts hd
  have hwn := (T.ok_parts hok).1
  have hm4 : m ≤ 4 := by omega
  have HF : Hid (∀ i : Nat, i < m → Calls Tryd.prog 118 #[.pointer (some ⟨g, 0, none⟩), .int .i64 (k : Int), .int .i64 (i : Int), .int .i64 (j : Int)] W fun e w' => e = .returned (.int .i64 (T.fall k (i : Int) (j : Int))) ∧ W = w') := fun i hi => fallP_any T A g k i j W hok hk (by omega) hj hT hW
  have HBD : Hid (∀ i : Nat, i < m → 0 ≤ d i * T.fall k (i : Int) (j : Int) ∧ d i * T.fall k (i : Int) (j : Int) ≤ 81) := fun i hi => mul_bd (hdb i hi) (fall_bd hok hk ⟨by omega, by omega⟩ ⟨by omega, hj⟩)
  have HLB : Hid (∀ i : Nat, i ≤ m → 0 ≤ lowN T k d (j : Int) i ∧ lowN T k d (j : Int) i ≤ 81 * (i : Int)) := fun i hi => lowN_bd hok hk ⟨by omega, hj⟩ (by omega) (fun q hq => hdb q (by omega))
  have HLO := Lib.hid (show T.low k d (j : Int) = lowN T k d (j : Int) m by unfold Tn.low; rw [show T.wn.toNat = m by omega])
  have HP := Lib.hid hp
  clear hok hk hj hd hT hW hp hm hdb hwn
  go_enter Tryd.func119, Tryd.ntmps119
  go_wp2
  go_loopw [6, 11] (fun s i wr => ∃ q : Nat, i = .int .i64 (q : Int) ∧ s = .int .i64 (lowN T k d (j : Int) q) ∧ q ≤ m ∧ wr = W) (fun _ i _ => m - (intOf i).toNat)
  case atStart => exact ⟨0, rfl, rfl, Nat.zero_le _, rfl⟩
  case round =>
    obtain ⟨q, rfl, rfl, hq, rfl⟩ := hrel
    by_cases hlt : q < m
    · have jq : decide ((q : Int) < (m : Int)) = true := by simp; omega
      obtain ⟨b4, o4, rfl, _, _⟩ := HP.out (by omega)
      have c0 : wr.cell? ⟨b4, o4 + q, none⟩ = some (.int .i64 (d q)) := At.cell (f := fun q => .int .i64 (d q)) HP.out (by omega)
      have hqi : (q : Int) < (m : Int) := by omega
      have hbd := HBD.out q hlt
      have hlb := HLB.out q hq
      have HFQ := Lib.hid (HF.out q hlt)
      have HS := Lib.hid (show lowN T k d (j : Int) (q + 1) = lowN T k d (j : Int) q + d q * T.fall k (q : Int) (j : Int) from rfl)
      obtain ⟨u, hu⟩ : ∃ u, T.fall k (q : Int) (j : Int) = u := ⟨_, rfl⟩
      obtain ⟨s, hs⟩ : ∃ s, lowN T k d (j : Int) q = s := ⟨_, rfl⟩
      rw [hu] at HS HFQ hbd
      rw [hs] at HS hlb ⊢
      have e1 : IntKind.i64.wrap (d q * u) = d q * u := IntWalk.i64_in _ (by omega)
      have e2 : IntKind.i64.wrap (s + d q * u) = s + d q * u := IntWalk.i64_in _ (by omega)
      clear hu hs
      go_wp2_with fail
      refine HFQ.out.mono ?_
      rintro e w' ⟨rfl, rfl⟩
      go_wp2
      go_roundw
      case rel => exact ⟨q + 1, by go_num, by rw [HS.out], hlt, by first | rfl | trivial⟩
      case measure => first | (simp [intOf]; done) | (simp [intOf]; omega)
    · have HQ := Lib.hid (show q = m by omega)
      have jq : decide ((q : Int) < (m : Int)) = false := by simp; omega
      go_wp2
      go_ret
      exact ⟨ret_i (by rw [HLO.out, HQ.out]), Below.refl _ _⟩
/-- all that wells lower a well by, world by world -/
def Tn.lw2 (T : Tn) (d : Nat → Int) (k : Int) (x : Nat) : Int := T.low x d k
set_option maxRecDepth 100000 in
set_option maxHeartbeats 2000000 in
theorem total_any (T : Tn) (A : Adr) (g j m c : Nat) (d : Nat → Int) (p : Option Addr) (w : World) (hok : T.ok = true) (hl : T.LL ≠ []) (hj : (j : Int) < T.wn) (hd : T.drw m d = true) (hT : TnIn w w.heap.size T A) (hW : WkIn w g T A) (hg : GlobsOk laid w) (hp : At w w.heap.size p m 1 (fun q => .int .i64 (d q))) :
    Calls Tryd.prog 86 #[.pointer (some ⟨g, 0, none⟩), .slice p m c, .int .i64 (j : Int)] w fun e w' => e = .returned (.agg #[.int .i64 (mnL (T.lw2 d j) T.LL), .int .i64 (mxL (T.lw2 d j) T.LL)]) ∧ Below w.heap.size w w' := by
  obtain ⟨w1, x1, hw1, hb1, hz1, F1⟩ := box_v w (.pointer (some ⟨g, 0, none⟩)) 98 rfl
  obtain ⟨w2, x2, hw2, hb2, hz2, F2⟩ := box_v x1.v (.slice p m c) 31 rfl
  obtain ⟨w3, x3, hw3, hb3, hz3, F3⟩ := box_v x2.v (.int .i64 (j : Int)) 3 rfl
  obtain ⟨w4, x4, hw4, hb4, hz4, R0, R1, Rf⟩ := box_sp x3.v
  have q3 : ∀ z : Ext w4, Below w3.heap.size w3 z.v := fun z => bT x3.b (bT hb4 z.b)
  have q2 : ∀ z : Ext w4, Below w2.heap.size w2 z.v := fun z => bT x2.b (bT hb3 (q3 z))
  have q1 : ∀ z : Ext w4, Below w1.heap.size w1 z.v := fun z => bT x1.b (bT hb2 (q2 z))
  have q0 : ∀ z : Ext w4, Below w.heap.size w z.v := fun z => bT hb1 (q1 z)
  have HSP := Lib.hid (span_any T A g 119 #[.pointer (some ⟨x1.v.heap.size, 0, none⟩), .pointer (some ⟨w.heap.size, 0, none⟩), .pointer (some ⟨x2.v.heap.size, 0, none⟩)] (T.lw2 d j) x4.v hok hl (hW.bel (q0 x4)) (hg.below (q0 x4)) (enters_of Tryd.func119 (by kernel_rfl) rfl)
    (fun V x hV hx => tot1_any T A g j _ _ _ x m c d p V hok (pick_mem.1 hx).1 hj hd ((hT.bel (q0 x4)).bel hV) ((hW.bel (q0 x4)).bel hV) ((hp.bel (q0 x4)).bel hV) (F2 ⟨V, q2 ⟨V, bT x4.b hV⟩⟩) (F1 ⟨V, q1 ⟨V, bT x4.b hV⟩⟩) (F3 ⟨V, q3 ⟨V, bT x4.b hV⟩⟩)))
  have HQ0 := Lib.hid (q0 x4)
  have f1 : x4.v.cell? ⟨w.heap.size, 0, none⟩ = some (.pointer (some ⟨g, 0, none⟩)) := F1 ⟨x4.v, q1 x4⟩
  have HR := Lib.hid (And.intro R0 (And.intro R1 Rf))
  have HGE := Lib.hid (show w.heap.size ≤ x3.v.heap.size by have a1 := hb1.size; have a2 := x1.b.size; have a3 := hb2.size; have a4 := x2.b.size; have a5 := hb3.size; have a6 := x3.b.size; omega)
  obtain ⟨gr, hgr⟩ : ∃ g, x3.v.heap.size = g := ⟨_, rfl⟩
  clear q3 q2 q1 q0 hb1 hb2 hb3 hb4 hz1 hz2 hz3 hz4 F1 F2 F3 R0 R1 Rf hT hW hg hj hl hok hd hp
  go_enter Tryd.func86, Tryd.ntmps86
  go_wp2_with fail
  refine (callsIn_wide.1 HSP.out).mono ?_
  rintro e w' ⟨rfl, hb⟩
  rw [hgr] at HR HGE
  have r0 := HR.out.1 ⟨w', bT x4.b hb⟩; have r1 := HR.out.2.1 ⟨w', bT x4.b hb⟩; have rf := HR.out.2.2 ⟨w', bT x4.b hb⟩
  dsimp only at r0 r1 rf
  have rf0 := rf 0; have rf1 := rf 1
  obtain ⟨h1, h2, h3⟩ := set_sp (w := w) (mnL (T.lw2 d j) T.LL) (mxL (T.lw2 d j) T.LL) HGE.out r0 r1 rf (bT HQ0.out hb)
  have H1 := Lib.hid h1
  clear h1 hb rf
  try rw [hgr]
  go_wp2
  exact bodyPost_ret (v := .agg #[.int .i64 (mnL (T.lw2 d j) T.LL), .int .i64 (mxL (T.lw2 d j) T.LL)]) (by simp [results, Tryd.f86, go_sem, h2, h3]) rfl ⟨rfl, H1.out⟩
/-- whether one well lowers another one by more than each other one, by the program -/
def wstP (T : Tn) (x : Nat) (d : Nat → Int) (i : Nat) (k : Int) (j : Nat) : Bool := (decide (j = i) || decide ((j : Int) = k)) || decide (d j * T.fall x (j : Int) k < d i * T.fall x (i : Int) k)
theorem worst_eq {T : Tn} {x m : Nat} {d : Nat → Int} {i : Nat} {k : Int} (hm : (m : Int) = T.wn) : T.worst x d i k = (decide (0 < d i * T.fall x (i : Int) k) && allN (wstP T x d i k) m) := by
  unfold Tn.worst
  rw [show T.wn.toNat = m by omega]
  rfl


set_option maxRecDepth 100000 in
set_option maxHeartbeats 8000000 in
theorem isWorst_any (T : Tn) (A : Adr) (g x i k m c : Nat) (d : Nat → Int) (p : Option Addr) (W : World) (hok : T.ok = true) (hx : x < T.nw) (hi : i < m) (hk : (k : Int) < T.wn) (hd : T.drw m d = true) (hT : TnIn W W.heap.size T A) (hW : WkIn W g T A) (hp : At W W.heap.size p m 1 (fun q => .int .i64 (d q))) :
    Calls Tryd.prog 120 #[.pointer (some ⟨g, 0, none⟩), .int .i64 (x : Int), .slice p m c, .int .i64 (i : Int), .int .i64 (k : Int)] W fun e W' => e = .returned (.bool (T.worst x d i (k : Int))) ∧ Below W.heap.size W W' := by
  obtain ⟨hm, hdb⟩ := drw_parts hd
  have hwn := (T.ok_parts hok).1
  have hm4 : m ≤ 4 := by omega
  have HF : Hid (∀ (j : Nat), j < m → ∀ z : Ext W, Calls Tryd.prog 118 #[.pointer (some ⟨g, 0, none⟩), .int .i64 (x : Int), .int .i64 (j : Int), .int .i64 (k : Int)] z.v fun e w' => e = .returned (.int .i64 (T.fall x (j : Int) (k : Int))) ∧ z.v = w') := fun j hj z => fallP_any T A g x j k z.v hok hx (by omega) hk (hT.bel z.b) (hW.bel z.b)
  have HBD : Hid (∀ j : Nat, j < m → 0 ≤ d j * T.fall x (j : Int) (k : Int) ∧ d j * T.fall x (j : Int) (k : Int) ≤ 81) := fun j hj => mul_bd (hdb j hj) (fall_bd hok hx ⟨by omega, by omega⟩ ⟨by omega, hk⟩)
  have HWE := Lib.hid (worst_eq (x := x) (d := d) (i := i) (k := (k : Int)) hm)
  have HP : Hid (∀ z : Ext W, At z.v z.v.heap.size p m 1 (fun q => .int .i64 (d q))) := fun z => hp.bel z.b
  obtain ⟨b4, o4, hpp, _, _⟩ := hp (by omega)
  subst hpp
  have c0 : ∀ z : Ext W, z.v.cell? ⟨b4, o4 + i, none⟩ = some (.int .i64 (d i)) := fun z => At.cell (f := fun q => .int .i64 (d q)) (HP.out z) (by omega)
  have hii : (i : Int) < (m : Int) := by omega
  have hbi := HBD.out i hi
  have HFI := Lib.hid (HF.out i hi)
  obtain ⟨u, hu⟩ : ∃ u, T.fall x (i : Int) (k : Int) = u := ⟨_, rfl⟩
  rw [hu] at hbi HFI HWE
  have HU := Lib.hid hu
  obtain ⟨lw, hlw⟩ : ∃ v, d i * u = v := ⟨_, rfl⟩
  rw [hlw] at hbi HWE
  have e1 : IntKind.i64.wrap (d i * u) = lw := by rw [hlw]; exact IntWalk.i64_in _ (by omega)
  have HLW := Lib.hid hlw
  obtain ⟨z0, hz0⟩ := rebase W
  clear hok hx hk hd hT hW hp hm hdb hwn hu hlw
  by_cases h0 : lw = 0
  · have j0 : (lw == 0) = true := by simpa using h0
    have HR := Lib.hid (show false = T.worst x d i (k : Int) by rw [HWE.out, show decide (0 < lw) = false by simp; omega]; rfl)
    clear h0
    go_enter Tryd.func120, Tryd.ntmps120
    go_wp2
    try rw [hz0]
    clear hz0
    refine quiet_e (by kernel_rfl) (by kernel_rfl) ?_
    repeat (first | go_big_quiet_step ((first | (go_at_call 118; exact quiet_s (HFI.out _)))) | quiet_step ((first | (go_at_call 118; exact quiet_s (HFI.out _)))))
    refine wpQuiet_nil ?_
    intro w6 hw6
    obtain ⟨z1, rfl⟩ := hw6
    go_wp2
    go_ret
    exact ⟨ret_b HR.out, z1.b⟩
  · have j0 : (lw == 0) = false := by simpa using h0
    have HWE2 := Lib.hid (show T.worst x d i (k : Int) = allN (wstP T x d i (k : Int)) m by rw [HWE.out, show decide (0 < lw) = true by simp; omega]; rfl)
    clear h0
    go_enter Tryd.func120, Tryd.ntmps120
    go_wp2
    try rw [hz0]
    clear hz0
    refine quiet_e (by kernel_rfl) (by kernel_rfl) ?_
    repeat (first | go_big_quiet_step ((first | (go_at_call 118; exact quiet_s (HFI.out _)))) | quiet_step ((first | (go_at_call 118; exact quiet_s (HFI.out _)))))
    refine wpQuiet_nil ?_
    intro w6 hw6
    obtain ⟨z1, rfl⟩ := hw6
    go_wp2
    clear c0
    go_loopw [28] (fun v wr => ∃ q : Nat, v = .int .i64 (q : Int) ∧ q ≤ m ∧ allN (wstP T x d i (k : Int)) q = true ∧ ∃ z : Ext W, wr = z.v) (fun v _ => m - (intOf v).toNat)
    case atStart => exact ⟨0, rfl, Nat.zero_le _, rfl, z1, rfl⟩
    case round =>
      clear z1
      obtain ⟨q, rfl, hq, ha, z, rfl⟩ := hrel
      have HA := Lib.hid ha
      clear ha
      by_cases hlt : q < m
      · have jq : decide ((q : Int) < (m : Int)) = true := by simp; omega
        have hqi : (q : Int) < (m : Int) := by omega
        have c1 : z.v.cell? ⟨b4, o4 + q, none⟩ = some (.int .i64 (d q)) := At.cell (f := fun q => .int .i64 (d q)) (HP.out z) (by omega)
        by_cases h1 : q = i
        · have j1 : ((q : Int) != (i : Int)) = false := by simp; omega
          have HN := Lib.hid (allN_succ HA.out (show wstP T x d i (k : Int) q = true by simp [wstP, h1]))
          clear h1
          go_wp2
          go_roundw
          case rel => exact ⟨q + 1, by go_num, hlt, HN.out, z, rfl⟩
          case measure => first | (simp [intOf]; done) | (simp [intOf]; omega)
        · have j1 : ((q : Int) != (i : Int)) = true := by simp; omega
          by_cases h2 : q = k
          · have j2 : ((q : Int) != (k : Int)) = false := by simp; omega
            have HN := Lib.hid (allN_succ HA.out (show wstP T x d i (k : Int) q = true by simp [wstP, h2]))
            clear h1 h2
            go_wp2
            go_roundw
            case rel => exact ⟨q + 1, by go_num, hlt, HN.out, z, rfl⟩
            case measure => first | (simp [intOf]; done) | (simp [intOf]; omega)
          · have j2 : ((q : Int) != (k : Int)) = true := by simp; omega
            have hbq := HBD.out q hlt
            have HFQ := Lib.hid (HF.out q hlt z)
            have HW2 := Lib.hid (show wstP T x d i (k : Int) q = decide (d q * T.fall x (q : Int) (k : Int) < lw) by
              unfold wstP
              rw [HU.out, HLW.out, show decide (q = i) = false by simpa using h1, show decide ((q : Int) = (k : Int)) = false by simp; omega]
              rfl)
            obtain ⟨v, hv⟩ : ∃ v, T.fall x (q : Int) (k : Int) = v := ⟨_, rfl⟩
            rw [hv] at hbq HFQ HW2
            have e2 : IntKind.i64.wrap (d q * v) = d q * v := IntWalk.i64_in _ (by omega)
            obtain ⟨r, hr⟩ : ∃ r, d q * v = r := ⟨_, rfl⟩
            rw [hr] at hbq HW2 e2
            have e3 : IntKind.i64.wrap (d q * v) = r := by rw [hr]; exact e2
            clear h1 h2 hv e2 hr
            by_cases h3 : lw ≤ r
            · have j3 : decide (lw ≤ r) = true := by simpa using h3
              have HR := Lib.hid (show false = T.worst x d i (k : Int) by rw [HWE2.out]; exact (allN_bad hlt (by rw [HW2.out]; simp; omega)).symm)
              go_wp2_with fail
              refine HFQ.out.mono ?_
              rintro e w' ⟨rfl, rfl⟩
              go_wp2
              go_ret
              exact ⟨ret_b HR.out, z.b⟩
            · have j3 : decide (lw ≤ r) = false := by simpa using h3
              have HN := Lib.hid (allN_succ HA.out (show wstP T x d i (k : Int) q = true by rw [HW2.out]; simp; omega))
              go_wp2_with fail
              refine HFQ.out.mono ?_
              rintro e w' ⟨rfl, rfl⟩
              go_wp2
              go_roundw
              case rel => exact ⟨q + 1, by go_num, hlt, HN.out, z, rfl⟩
              case measure => first | (simp [intOf]; done) | (simp [intOf]; omega)
      · have HR := Lib.hid (show true = T.worst x d i (k : Int) by rw [HWE2.out]; have := HA.out; rw [show q = m by omega] at this; exact this.symm)
        have jq : decide ((q : Int) < (m : Int)) = false := by simp; omega
        go_wp2
        go_ret
        exact ⟨ret_b HR.out, z.b⟩
end Go.Proofs.YtdjkbpenppdnlaaDoor

set_option linter.unusedSimpArgs false

set_option linter.unusedVariables false

namespace Go.Proofs.YtdjkbpenppdnlaaDoor

open Go.RowKit Go.Shelf
attribute [local go_sem] Oper.semAt_some

def onI (o : Option Nat) : Int := match o with | some i => (i : Int) | none => 0
def mkM (D : Nat) : Deferred := { target := .collected D, args := #[] }
/-- the marks of ranges over functions that are over, all in blocks from B on -/
structure MarkQ (B : Nat) (W : World) (Ds : List Nat) : Prop where
  nd : Ds.Nodup
  lo : ∀ D ∈ Ds, B ≤ D
  at_ : ∀ D ∈ Ds, W.heap[D]? = some (.deferred (some []))
theorem MarkQ.nil (B : Nat) (W : World) : MarkQ B W [] := ⟨List.nodup_nil, fun _ h => (by cases h), fun _ h => (by cases h)⟩
theorem MarkQ.cons {B : Nat} {W W' : World} {Ds : List Nat} {D : Nat} (h : MarkQ B W Ds) (hB : B ≤ W.heap.size) (hD : W.heap.size ≤ D) (hk : W'.heap[D]? = some (.deferred (some [])))
    (hs : ∀ k, B ≤ k → k < W.heap.size → W'.heap[k]? = W.heap[k]?) : MarkQ B W' (D :: Ds) := by
  have hlt : ∀ E ∈ Ds, E < W.heap.size := fun E hE => (Array.getElem?_eq_some_iff.1 (h.at_ E hE)).1
  refine ⟨List.nodup_cons.2 ⟨fun hE => ?_, h.nd⟩, ?_, ?_⟩
  · have := hlt D hE; omega
  · intro E hE
    rcases List.mem_cons.1 hE with rfl | hE
    · omega
    · exact h.lo E hE
  · intro E hE
    rcases List.mem_cons.1 hE with rfl | hE
    · exact hk
    · rw [hs E (h.lo E hE) (hlt E hE)]; exact h.at_ E hE
theorem MarkQ.below {B : Nat} {W W' : World} {Ds : List Nat} (h : MarkQ B W Ds) (hb : Below W.heap.size W W') : MarkQ B W' Ds :=
  ⟨h.nd, h.lo, fun E hE => (hb.block E (Array.getElem?_eq_some_iff.1 (h.at_ E hE)).1).trans (h.at_ E hE)⟩
theorem leave_markQ {F : Fence} {n : Nat} {P : Program} {fn : Func} {tmps : Array Value} {R : Ending → World → Prop} {B : Nat} : ∀ (Ds : List Nat) (W : World), MarkQ B W Ds →
    (∀ W', Below B W W' → LeavesInM F n P fn tmps R [] .returning W') → LeavesInM F n P fn tmps R (Ds.map mkM) .returning W
  | [], W, _, h => h W (Below.refl _ _)
  | D :: Ds, W, hm, h => by
    have hD := hm.at_ D (List.mem_cons_self ..)
    have hB := hm.lo D (List.mem_cons_self ..)
    obtain ⟨hn1, hn2⟩ := List.nodup_cons.1 hm.nd
    refine ⟨by simp, .inl ⟨D, _, rfl, run_takeDeferred hD, ?_⟩⟩
    refine leave_markQ Ds _ ⟨hn2, fun E hE => hm.lo E (List.mem_cons_of_mem _ hE), fun E hE => ?_⟩ fun W' hW' => h W' ((below_putObj W _ hB).trans hW')
    exact (World.putObj_heap_other (by rintro rfl; exact hn1 hE)).trans (hm.at_ E (List.mem_cons_of_mem _ hE))
theorem blmF_up {T : Tn} {d : Nat → Int} {k : Int} {i n : Nat} (h : blmF T d k n = some i) : ∀ j, blmF T d k (n + j) = some i
  | 0 => h
  | j + 1 => by rw [← Nat.add_assoc]; unfold blmF; rw [blmF_up h j]
theorem blmF_hit {T : Tn} {d : Nat → Int} {k : Int} {q m : Nat} (h : blmF T d k q = none) (hb : T.blamed d k q = true) (hq : q < m) : blmF T d k m = some q := by
  have h1 : blmF T d k (q + 1) = some q := by unfold blmF; rw [h]; simp [hb]
  have := blmF_up h1 (m - (q + 1))
  rwa [show q + 1 + (m - (q + 1)) = m by omega] at this
theorem blmF_miss {T : Tn} {d : Nat → Int} {k : Int} {q : Nat} (h : blmF T d k q = none) (hb : T.blamed d k q = false) : blmF T d k (q + 1) = none := by
  unfold blmF; rw [h]; simp [hb]
theorem blamed_self {T : Tn} {d : Nat → Int} {k q : Nat} (h : q = k) : T.blamed d (k : Int) q = false := by subst h; simp [Tn.blamed]
theorem blamed_all {T : Tn} {d : Nat → Int} {k q : Nat} (h : q ≠ k) (ha : ∀ x, x ∈ T.LL → T.worst x d q (k : Int) = true) : T.blamed d (k : Int) q = true := by
  unfold Tn.blamed
  rw [show decide ((q : Int) = (k : Int)) = false by simp; omega]
  simpa using ha
theorem blamed_no {T : Tn} {d : Nat → Int} {k q x : Nat} (hx : x ∈ T.LL) (hw : T.worst x d q (k : Int) = false) : T.blamed d (k : Int) q = false := by
  unfold Tn.blamed
  rw [Bool.and_eq_false_iff]
  right
  rw [List.all_eq_false]
  exact ⟨x, hx, by rw [hw]; simp⟩
set_option maxRecDepth 100000 in
set_option maxHeartbeats 8000000 in
theorem blame_any (T : Tn) (A : Adr) (g k m c : Nat) (d : Nat → Int) (p : Option Addr) (w : World) (hok : T.ok = true) (hk : (k : Int) < T.wn) (hd : T.drw m d = true) (hT : TnIn w w.heap.size T A) (hW : WkIn w g T A) (hg : GlobsOk laid w) (hp : At w w.heap.size p m 1 (fun q => .int .i64 (d q))) :
    CallsIn Fence.wide 9 Tryd.prog 87 #[.pointer (some ⟨g, 0, none⟩), .slice p m c, .int .i64 (k : Int)] w fun e w' => e = .returned (.tuple #[.int .i64 (onI (blmF T d (k : Int) m)), .bool (blmF T d (k : Int) m).isSome]) ∧ Below w.heap.size w w' := by
  obtain ⟨w1, x1, hw1, hb1, hz1, F1⟩ := box_v w (.pointer (some ⟨g, 0, none⟩)) 98 rfl
  obtain ⟨w2, x2, hw2, hb2, hz2, F2⟩ := box_v x1.v (.slice p m c) 31 rfl
  obtain ⟨w3, x3, hw3, hb3, hz3, F3⟩ := box_v x2.v (.int .i64 (k : Int)) 3 rfl
  have q2 : ∀ z : Ext w3, Below w2.heap.size w2 z.v := fun z => bT x2.b (bT hb3 z.b)
  have q1 : ∀ z : Ext w3, Below w1.heap.size w1 z.v := fun z => bT x1.b (bT hb2 (q2 z))
  have HQ0 : Hid (∀ z : Ext w3, Below w.heap.size w z.v) := fun z => bT hb1 (q1 z)
  obtain ⟨p1, hp1⟩ : ∃ n, x1.v.heap.size = n := ⟨_, rfl⟩
  obtain ⟨p2, hp2⟩ : ∃ n, x2.v.heap.size = n := ⟨_, rfl⟩
  have C1 : ∀ z : Ext w3, z.v.cell? ⟨w.heap.size, 0, none⟩ = some (.pointer (some ⟨g, 0, none⟩)) := fun z => F1 ⟨z.v, q1 z⟩
  have C2 : ∀ z : Ext w3, z.v.cell? ⟨p1, 0, none⟩ = some (.slice p m c) := fun z => by rw [← hp1]; exact F2 ⟨z.v, q2 z⟩
  have C3 : ∀ z : Ext w3, z.v.cell? ⟨p2, 0, none⟩ = some (.int .i64 (k : Int)) := fun z => by rw [← hp2]; exact F3 z
  have HT : Hid (∀ z : Ext w3, TnIn z.v z.v.heap.size T A) := fun z => hT.bel (HQ0.out z)
  have HW : Hid (∀ z : Ext w3, WkIn z.v g T A) := fun z => hW.bel (HQ0.out z)
  have HG : Hid (∀ z : Ext w3, GlobsOk laid z.v) := fun z => hg.below (HQ0.out z)
  have HP : Hid (∀ z : Ext w3, At z.v z.v.heap.size p m 1 (fun q => .int .i64 (d q))) := fun z => hp.bel (HQ0.out z)
  have hnw := (T.ok_parts hok).2.1
  have HM := Lib.hid (mk_64 (b := T.lft) hnw)
  have HLB := Lib.hid (LL_bits hnw)
  have hm4 : m ≤ 4 := by have := (drw_parts hd).1; have := (T.ok_parts hok).1; omega
  have HIW : Hid (∀ (x q : Nat) (z : Ext w3), x ∈ T.LL → q < m → Calls Tryd.prog 120 #[.pointer (some ⟨g, 0, none⟩), .int .i64 (x : Int), .slice p m c, .int .i64 (q : Int), .int .i64 (k : Int)] z.v fun e W' => e = .returned (.bool (T.worst x d q (k : Int))) ∧ Below z.v.heap.size z.v W') := fun x q z hx hq => isWorst_any T A g x q k m c d p z.v hok (pick_mem.1 hx).1 hq hk hd (HT.out z) (HW.out z) (HP.out z)
  obtain ⟨bm, hbm⟩ : ∃ n, mk T.lft T.nw = n := ⟨_, rfl⟩
  have C4 : ∀ z : Ext w3, z.v.cell? ⟨g, 3, none⟩ = some (.int .u64 (bm : Int)) := fun z => by rw [← hbm]; exact (HW.out z).c3
  rw [hbm] at HM HLB
  obtain ⟨res, hres⟩ : ∃ r, blmF T d (k : Int) m = r := ⟨_, rfl⟩
  rw [hres]
  have HRES := Lib.hid hres
  have cc2 := C2 x3
  clear hb1 hb2 hb3 hz1 hz2 hz3 F1 F2 F3 q1 q2 hT hW hg hp hok hk hd hnw hbm hres
  refine callsIn_of_wp_marks Tryd.func87 rfl trivial ?_ rfl
  simp only [Tryd.ntmps87, List.size_toArray, List.length_cons, List.length_nil, Nat.reduceAdd, Nat.reduceSub, Array.replicate_succ, Array.replicate_zero, List.push_toArray, List.append_toArray, List.nil_append, List.cons_append]
  gi_wp2
  refine wpIn_wide.2 (wp_scope_straight ((wpIn_wide (n := 9)).1 ?_))
  apply Go.wpIn_seq_k
  intro K0 hK0
  apply Go.wpIn_label
  show K0 _ _
  apply hK0
  gi_wp2
  try rw [hp1]
  try rw [hp2]
  clear cc2 hw1 hw2 hw3 hp1 hp2
  refine wpIn_loop (fun a W => ∃ (q : Nat) (Ds : List Nat) (v8 v9 v13 v14 v15 v16 v17 v18 v19 v20 v21 v22 v23 v24 v25 v26 v27 v28 v29 v30 v31 v32 : Value), a = Act.mk
        #[Value.pointer (some ⟨g, 0, none⟩), Value.slice p m c, Value.int .i64 (k : Int), Value.pointer (some ⟨w.heap.size, 0, none⟩), Value.pointer (some ⟨p1, 0, none⟩), Value.pointer (some ⟨p2, 0, none⟩), Value.int .i64 0, Value.bool false, v8, v9, Value.slice p m c, Value.int .i64 (m : Int), Value.int .i64 (q : Int), v13, v14, v15, v16, v17, v18, v19, v20, v21, v22, v23, v24, v25, v26, v27, v28, v29, v30, v31, v32] (Ds.map mkM) ∧ q ≤ m ∧ MarkQ w3.heap.size W Ds ∧ Below w3.heap.size w3 W ∧ blmF T d (k : Int) q = none)
    (fun a _ => m - (intOf (a.tmps.getD 12 undef)).toNat) ?start ?round
  case start => exact ⟨0, [], _, _, _, _, _, _, _, _, _, _, _, _, _, _, _, _, _, _, _, _, _, _, rfl, Nat.zero_le _, MarkQ.nil _ _, x3.b, rfl⟩
  case round =>
    rintro a W ⟨q, Ds, v8, v9, v13, v14, v15, v16, v17, v18, v19, v20, v21, v22, v23, v24, v25, v26, v27, v28, v29, v30, v31, v32, rfl, hq, hm, hb, hf⟩
    obtain ⟨y, rfl⟩ : ∃ z : Ext w3, W = z.v := ⟨⟨W, hb⟩, rfl⟩
    have HMK := Lib.hid hm; have HF := Lib.hid hf; have HSZ := Lib.hid hb.size
    have c1 := C1 y; have c2 := C2 y; have c3 := C3 y; have c4 := C4 y
    clear hm hb hf
    by_cases hlt : q < m
    · have j : decide ((q : Int) < (m : Int)) = true := by simp; omega
      have hqi : (q : Int) < (m : Int) := by omega
      obtain ⟨wa, hwa, hba, hza, D0⟩ : ∃ wa : World, y.v.alloc (Obj.cells #[Value.int .i64 (q : Int)] 3) = wa ∧ Below y.v.heap.size y.v wa ∧ wa.heap.size = y.v.heap.size + 1 ∧ wa.cell? ⟨y.v.heap.size, 0, none⟩ = some (.int .i64 (q : Int)) :=
        ⟨_, rfl, bA (Below.refl _ _) _, by simp, by go_simp⟩
      obtain ⟨ya, rfl⟩ : ∃ z : Ext w3, wa = z.v := ⟨⟨wa, bT y.b hba⟩, rfl⟩
      have HBA := Lib.hid hba; have HZA := Lib.hid hza; have HD0 := Lib.hid D0
      have d1 := C1 ya; have d3 := C3 ya; have d4 := C4 ya
      clear hba hza
      by_cases hqk : q = k
      · have jk : ((q : Int) == (k : Int)) = true := by simp; omega
        have HNX := Lib.hid (blmF_miss HF.out (blamed_self hqk))
        clear hqk
        gi_wp2_with fail
        refine ⟨⟨q + 1, Ds, _, _, _, _, _, _, _, _, _, _, _, _, _, _, _, _, _, _, _, _, _, _, by go_num, hlt, HMK.out.below HBA.out, ya.b, HNX.out⟩, ?_⟩
        simp [intOf]; omega
      · have jk : ((q : Int) == (k : Int)) = false := by simp; omega
        have HQK := Lib.hid hqk
        clear hqk
        gi_wp2
        refine rangeN rfl (by omega) (gf := 73) (fb := #[.int .u64 (bm : Int)]) (lb := #[]) rfl trivial (enters_of Tryd.func73 (by kernel_rfl) rfl)
          (encs := fun x : Nat => #[Value.int .i64 (x : Int)]) (fun pre x _ => pre ++ [x] <+: bitsM bm) (fun xs V => Below ya.v.heap.size ya.v V ∧ ∀ x, x ∈ xs → T.worst x d q (k : Int) = true) (fun cd xs V => cd = .exit 1 ∧ Below ya.v.heap.size ya.v V ∧ ∃ pre x, xs = pre ++ [x] ∧ T.worst x d q (k : Int) = false) (fun xs => xs = bitsM bm) (fun pre => pre <+: bitsM bm) (fun V => GlobsOk laid V) (fun s A h => HG.out ⟨A, bT ya.b h.1⟩)
          (fun _ => rfl) ?st (fun s A o h _ _ => ⟨h.1.trans (below_putObj _ _ (by omega)), h.2⟩) (fun s A B h kk => ⟨bT h.1 kk, h.2⟩) (fun cd s A r o h _ => ⟨h.1, h.2.1.trans (below_putObj _ _ (by omega)), h.2.2⟩) ?seq ?round2 ?done ?stop
        case st => exact fun B hB _ => ⟨hB, fun x hx => by cases hx⟩
        case seq =>
          intro l J Jx V hl1 hl2 hB hJ hJK hY h0
          exact each_any bm l _ J Jx V HM.out hJ hJK (fun m pre x A hj hp => yieldAny rfl m (hY pre x A hj hp)) h0
        case round2 =>
          rintro l pre x V hl hr' hI hx1
          gi_wp2
          refine ⟨Below.refl _ _, fun W₂ hg2 hs2' hz2 hr2 hd2 hI2 => ?_⟩
          obtain ⟨yb, rfl⟩ : ∃ z : Ext w3, W₂ = z.v := ⟨⟨W₂, bT ya.b hI2.1⟩, rfl⟩
          have e1 := C1 yb; have e2 := C2 yb; have e3 := C3 yb
          have e0 : yb.v.cell? ⟨y.v.heap.size, 0, none⟩ = some (.int .i64 (q : Int)) := (hI2.1.cell (p := ⟨y.v.heap.size, 0, none⟩) (by show y.v.heap.size < _; have := HZA.out; omega)).trans HD0.out
          have hxl : x ∈ T.LL := by
            have : x ∈ bitsM bm := hx1.subset (by simp)
            rwa [HLB.out] at this
          have HCW := Lib.hid (HIW.out x q yb hxl hlt)
          have HI2 := Lib.hid hI2; have HZ2 := Lib.hid hz2
          obtain ⟨b, hb⟩ : ∃ b, T.worst x d q (k : Int) = b := ⟨_, rfl⟩
          rw [hb] at HCW
          have HWB := Lib.hid hb
          clear hI hI2 hg2 hs2' hz2 hr2 hd2 hr' hx1 hxl hb c1 c2 c3 c4 d1 d3 d4 D0 hwa
          cases b with
          | true =>
            gi_wp2
            refine ⟨trivial, ?_⟩
            refine (CallsIn.inRound l (callsIn_wide.2 HCW.out)).mono ?_
            rintro e w5 ⟨rfl, hb5⟩
            have HB5 := Lib.hid hb5; clear hb5
            gi_wp2
            exact ⟨⟨HB5.out.size, HB5.out.block _ (by have := HZ2.out; omega), HB5.out.block _ HZ2.out⟩, bT HI2.out.1 HB5.out, fun y hy => by
              rcases List.mem_append.1 hy with h | h
              · exact HI2.out.2 y h
              · rw [List.mem_singleton.1 h]; exact HWB.out⟩
          | false =>
            gi_wp2
            refine ⟨trivial, ?_⟩
            refine (CallsIn.inRound l (callsIn_wide.2 HCW.out)).mono ?_
            rintro e w5 ⟨rfl, hb5⟩
            have HB5 := Lib.hid hb5; clear hb5
            gi_wp2
            exact ⟨⟨HB5.out.size, HB5.out.block _ (by have := HZ2.out; omega), HB5.out.block _ HZ2.out⟩, rfl, bT HI2.out.1 HB5.out, pre, x, rfl, HWB.out⟩
        case done =>
          rintro D' xs V rfl rfl hI hK
          obtain ⟨yc, rfl⟩ : ∃ z : Ext w3, V = z.v := ⟨⟨V, bT ya.b hI.1⟩, rfl⟩
          have e0 : yc.v.cell? ⟨y.v.heap.size, 0, none⟩ = some (.int .i64 (q : Int)) := (hI.1.cell (p := ⟨y.v.heap.size, 0, none⟩) (by show y.v.heap.size < _; have := HZA.out; omega)).trans HD0.out
          have HI := Lib.hid hI; have HK := Lib.hid hK
          have hbl := blmF_hit HF.out (blamed_all HQK.out (fun x hx => hI.2 x (by rw [HLB.out]; exact hx))) hlt
          rw [HRES.out] at hbl
          have HBL := Lib.hid hbl
          clear hI hK hbl c1 c2 c3 c4 d1 d3 d4 D0 hwa
          gi_wp2_with fail
          refine leave_markQ (B := w3.heap.size) (ya.v.heap.size :: Ds) yc.v ((HMK.out.below HBA.out).cons (ya.b.size) (Nat.le_refl _) HK.out (fun i _ hl => HI.out.1.block i hl)) fun W' hW' => ⟨.tuple #[.int .i64 (q : Int), .bool true], by simp [results, Tryd.f87, go_sem], by rw [HBL.out]; rfl, ?_⟩
          exact (HQ0.out yc).trans (hW'.mono (by have := (HQ0.out x3).size; have := x3.b.size; have := (HQ0.out ⟨w3, Below.refl _ _⟩).size; omega))
        case stop =>
          rintro D' cd pre V rfl hSp ⟨rfl, hbv, pre0, x, rfl, hw⟩ hK
          obtain ⟨yc, rfl⟩ : ∃ z : Ext w3, V = z.v := ⟨⟨V, bT ya.b hbv⟩, rfl⟩
          have hxl : x ∈ T.LL := by
            have : x ∈ bitsM bm := hSp.subset (by simp)
            rwa [HLB.out] at this
          have HNX := Lib.hid (blmF_miss HF.out (blamed_no hxl hw))
          have HMX := Lib.hid ((HMK.out.below HBA.out).cons (W' := yc.v) (ya.b.size) (Nat.le_refl _) hK (fun i _ hl => hbv.block i hl))
          clear hSp hbv hw hK hxl c1 c2 c3 c4 d1 d3 d4 D0 hwa
          gi_wp2_with fail
          refine ⟨⟨q + 1, ya.v.heap.size :: Ds, _, _, _, _, _, _, _, _, _, _, _, _, _, _, _, _, _, _, _, _, _, _, by go_num, hlt, HMX.out, yc.b, HNX.out⟩, ?_⟩
          simp [intOf]; omega
    · have HQM := Lib.hid (show q = m by omega)
      have j : decide ((q : Int) < (m : Int)) = false := by simp; omega
      have HRN := Lib.hid (show res = none by rw [← HRES.out, ← HQM.out]; exact HF.out)
      gi_wp2_with fail
      refine leave_markQ (B := w3.heap.size) Ds y.v HMK.out fun W' hW' => ⟨.tuple #[.int .i64 0, .bool false], by simp [results, Tryd.f87, go_sem], by rw [HRN.out]; rfl, ?_⟩
      exact (HQ0.out y).trans (hW'.mono (by have := (HQ0.out ⟨w3, Below.refl _ _⟩).size; omega))
end Go.Proofs.YtdjkbpenppdnlaaDoor
