/- Towns with worlds: draws, what lowers a well, who is blamed, Total and Blame of the specification. -/
import Derived.Test.YtdjkbpenppdnlaaDoorJ4

import Derived.Test.YtdjkbpenppdnlaaDoorH3

set_option linter.unusedSimpArgs false

set_option linter.unusedVariables false

namespace Go.Proofs.YtdjkbpenppdnlaaDoor

open Go.RowKit

theorem wkE_D {T : Tn} (m : Nat) (d : Nat → Int) (k : Int) : T.wkE (T.isD m d k) = T.wkE (T.drw m d && T.wellW k) := by
  cases h : T.ok with
  | false => rw [wkE_bad h, wkE_bad h]
  | true => rw [wellW_ok h]; rfl
set_option maxRecDepth 100000 in
set_option maxHeartbeats 2000000 in
theorem areDrawsR_is {T : Tn} {A : Adr} {m c : Nat} {d : Nat → Int} {p : Option Addr} {b : Bool} (hb : T.drw m d = b) (w : World) (hm : m ≤ maxLen) (h : At w w.heap.size p m 1 (fun q => .int .i64 (d q))) :
    Calls Tryd.prog 49 #[.agg #[.int .i64 T.wn, .slice A.wp T.nw A.wc, .slice A.fp T.nf A.fc], .slice p m c] w fun e w' => e = .returned (.bool b) ∧ Below w.heap.size w w' := by
  obtain ⟨w1, x, hw1, hb1, hz1, F0, F1, F2, _⟩ := box_tn w T.wn A.wp A.fp T.nw A.wc T.nf A.fc
  have HB := Lib.hid hb1
  have HP : Hid (∀ z : Ext w1, At z.v z.v.heap.size p m 1 (fun q => .int .i64 (d q))) := fun z => h.bel (bT hb1 z.b)
  have HD := Lib.hid hb
  have f0 := F0 x
  unfold maxLen at hm
  clear hb1 hz1 hb h F0 F1 F2
  by_cases he : (m : Int) = T.wn
  · have j : ((m : Int) != T.wn) = false := by simpa using he
    have HE := Lib.hid he; clear he
    go_enter Tryd.func49, Tryd.ntmps49
    go_wp2
    clear hw1 f0
    go_loopw [5] (fun v wr => ∃ q : Nat, v = .int .i64 (q : Int) ∧ q ≤ m ∧ allN (fun q => within (d q) 0 9) q = true ∧ ∃ z : Ext w1, wr = z.v) (fun v _ => m - (intOf v).toNat)
    case atStart => exact ⟨0, rfl, Nat.zero_le _, rfl, x, rfl⟩
    case round =>
      clear x
      obtain ⟨q, rfl, hq, ha, z, rfl⟩ := hrel
      have HA := Lib.hid ha; clear ha
      by_cases hlt : q < m
      · have jq : decide ((q : Int) < (m : Int)) = true := by simp; omega
        have hqi : (q : Int) < (m : Int) := by omega
        obtain ⟨b4, o4, hpp, -, -⟩ := HP.out z (by omega)
        have c1 : z.v.cell? ⟨b4, o4 + q, none⟩ = some (.int .i64 (d q)) := At.cell (f := fun q => .int .i64 (d q)) (by have := HP.out z; rwa [hpp] at this) (by omega)
        subst hpp
        cases hw : within (d q) 0 9 with
        | true =>
          have HN := Lib.hid (allN_succ HA.out (show (fun q => within (d q) 0 9) q = true from hw))
          have HW := Lib.hid hw; clear hw
          go_wp2_with (go_at_call 69; refine (within_is HW.out _).mono ?_; rintro e w' ⟨rfl, rfl⟩)
          go_roundw
          case rel => exact ⟨q + 1, by go_num, hlt, HN.out, z, rfl⟩
          case measure => first | (simp [intOf]; done) | (simp [intOf]; omega)
        | false =>
          have HN := Lib.hid (show false = b by rw [← HD.out]; unfold Tn.drw; rw [allN_bad (f := fun q => within (d q) 0 9) hlt hw]; simp)
          have HW := Lib.hid hw; clear hw
          go_wp2_with (go_at_call 69; refine (within_is HW.out _).mono ?_; rintro e w' ⟨rfl, rfl⟩)
          go_ret
          exact ⟨ret_b HN.out, bT HB.out z.b⟩
      · have HN := Lib.hid (show true = b by rw [← HD.out]; unfold Tn.drw; have := HA.out; rw [show q = m by omega] at this; rw [this, decide_eq_true HE.out]; rfl)
        have jq : decide ((q : Int) < (m : Int)) = false := by simp; omega
        go_wp2
        go_ret
        exact ⟨ret_b HN.out, bT HB.out z.b⟩
  · have j : ((m : Int) != T.wn) = true := by simpa using he
    have HN := Lib.hid (show false = b by rw [← HD.out]; unfold Tn.drw; rw [show decide ((m : Int) = T.wn) = false by simpa using he]; rfl)
    clear he
    go_enter Tryd.func49, Tryd.ntmps49
    go_wp2
    go_ret
    exact ⟨ret_b HN.out, bT HB.out x.b⟩
set_option maxRecDepth 100000 in
set_option maxHeartbeats 4000000 in
theorem lowersR_is {T : Tn} {A : Adr} {x k m c : Nat} {d : Nat → Int} {p : Option Addr} {v : Int} (hv : T.low x d (k : Int) = v) (hok : T.ok = true) (hx : x < T.nw) (hk : (k : Int) < T.wn) (hd : T.drw m d = true) (w : World) (hT : TnIn w w.heap.size T A) (hp : At w w.heap.size p m 1 (fun q => .int .i64 (d q))) :
    Calls Tryd.prog 53 #[.agg #[.int .i64 T.wn, .slice A.wp T.nw A.wc, .slice A.fp T.nf A.fc], .int .i64 (x : Int), .slice p m c, .int .i64 (k : Int)] w fun e w' => e = .returned (.int .i64 v) ∧ Below w.heap.size w w' := by
  obtain ⟨w1, x1, hw1, hb1, hz1, F0, F1, F2, _⟩ := box_tn w T.wn A.wp A.fp T.nw A.wc T.nf A.fc
  obtain ⟨hm, hdb⟩ := drw_parts hd
  have hwn := (T.ok_parts hok).1
  have hm4 : m ≤ 4 := by omega
  have HB := Lib.hid hb1
  have HF : Hid (∀ (i : Nat) (u : Int), i < m → T.fall x (i : Int) (k : Int) = u → ∀ z : Ext w1, Calls Tryd.prog 52 #[.agg #[.int .i64 T.wn, .slice A.wp T.nw A.wc, .slice A.fp T.nf A.fc], .int .i64 (x : Int), .int .i64 (i : Int), .int .i64 (k : Int)] z.v fun e w' => e = .returned (.int .i64 u) ∧ Below z.v.heap.size z.v w') := fun i u hi hu z => fallR_is hu hok hx (by omega) hk z.v (hT.bel (bT hb1 z.b))
  have HBD : Hid (∀ i : Nat, i < m → 0 ≤ d i * T.fall x (i : Int) (k : Int) ∧ d i * T.fall x (i : Int) (k : Int) ≤ 81) := fun i hi => mul_bd (hdb i hi) (fall_bd hok hx ⟨by omega, by omega⟩ ⟨by omega, hk⟩)
  have HLB : Hid (∀ i : Nat, i ≤ m → 0 ≤ lowN T x d (k : Int) i ∧ lowN T x d (k : Int) i ≤ 81 * (i : Int)) := fun i hi => lowN_bd hok hx ⟨by omega, hk⟩ (by omega) (fun q hq => hdb q (by omega))
  have HLO := Lib.hid (show lowN T x d (k : Int) m = v by rw [← hv]; unfold Tn.low; rw [show T.wn.toNat = m by omega])
  have HP : Hid (∀ z : Ext w1, At z.v z.v.heap.size p m 1 (fun q => .int .i64 (d q))) := fun z => hp.bel (bT hb1 z.b)
  clear hb1 hz1 hok hx hk hd hT hp hm hdb hwn hv
  go_enter Tryd.func53, Tryd.ntmps53
  go_wp2
  clear hw1
  go_loopw [9, 10] (fun s i wr => ∃ q : Nat, i = .int .i64 (q : Int) ∧ s = .int .i64 (lowN T x d (k : Int) q) ∧ q ≤ m ∧ ∃ z : Ext w1, wr = z.v) (fun _ i _ => m - (intOf i).toNat)
  case atStart => exact ⟨0, rfl, rfl, Nat.zero_le _, x1, rfl⟩
  case round =>
    clear x1
    obtain ⟨q, rfl, rfl, hq, z, rfl⟩ := hrel
    by_cases hlt : q < m
    · have jq : decide ((q : Int) < (m : Int)) = true := by simp; omega
      obtain ⟨b4, o4, hpp, -, -⟩ := HP.out z (by omega)
      have c0 : ∀ z : Ext w1, z.v.cell? ⟨b4, o4 + q, none⟩ = some (.int .i64 (d q)) := fun z => At.cell (f := fun q => .int .i64 (d q)) (by have := HP.out z; rwa [hpp] at this) (by omega)
      subst hpp
      have hqi : (q : Int) < (m : Int) := by omega
      have hbd := HBD.out q hlt
      have hlb := HLB.out q hq
      have HS := Lib.hid (show lowN T x d (k : Int) (q + 1) = lowN T x d (k : Int) q + d q * T.fall x (q : Int) (k : Int) from rfl)
      obtain ⟨u, hu⟩ : ∃ u, T.fall x (q : Int) (k : Int) = u := ⟨_, rfl⟩
      have HFQ := Lib.hid (HF.out q u hlt hu)
      obtain ⟨s, hs⟩ : ∃ s, lowN T x d (k : Int) q = s := ⟨_, rfl⟩
      rw [hu] at HS hbd
      rw [hs] at HS hlb ⊢
      have e1 : IntKind.i64.wrap (d q * u) = d q * u := IntWalk.i64_in _ (by omega)
      have e2 : IntKind.i64.wrap (s + d q * u) = s + d q * u := IntWalk.i64_in _ (by omega)
      clear hu hs
      go_wp2
      refine quiet_e (by kernel_rfl) (by kernel_rfl) ?_
      repeat (first | go_big_quiet_step ((first | (go_at_call 52; exact quiet_x (HFQ.out _)))) | quiet_step ((first | (go_at_call 52; exact quiet_x (HFQ.out _)))))
      refine wpQuiet_nil ?_
      intro w6 hw6
      obtain ⟨z2, rfl⟩ := hw6
      go_wp2
      go_roundw
      case rel => exact ⟨q + 1, by go_num, by rw [HS.out], hlt, z2, rfl⟩
      case measure => first | (simp [intOf]; done) | (simp [intOf]; omega)
    · have HQ := Lib.hid (show q = m by omega)
      have jq : decide ((q : Int) < (m : Int)) = false := by simp; omega
      go_wp2
      go_ret
      exact ⟨ret_i (by rw [← HLO.out, HQ.out]), bT HB.out z.b⟩
/-- whether one well is blamed in a world -/
def Tn.isB (T : Tn) (d : Nat → Int) (k : Int) (i x : Nat) : Bool := !decide ((i : Int) = k) && T.worst x d i k
set_option maxRecDepth 100000 in
set_option maxHeartbeats 8000000 in
theorem isBlamedR_is {T : Tn} {A : Adr} {x i k m c : Nat} {d : Nat → Int} {p : Option Addr} {b : Bool} (hb : T.isB d (k : Int) i x = b) (hok : T.ok = true) (hx : x < T.nw) (hi : i < m) (hk : (k : Int) < T.wn) (hd : T.drw m d = true) (w : World) (hT : TnIn w w.heap.size T A) (hp : At w w.heap.size p m 1 (fun q => .int .i64 (d q))) :
    Calls Tryd.prog 55 #[.agg #[.int .i64 T.wn, .slice A.wp T.nw A.wc, .slice A.fp T.nf A.fc], .int .i64 (x : Int), .slice p m c, .int .i64 (i : Int), .int .i64 (k : Int)] w fun e w' => e = .returned (.bool b) ∧ Below w.heap.size w w' := by
  obtain ⟨w1, x1, hw1, hb1, hz1, F0, F1, F2, _⟩ := box_tn w T.wn A.wp A.fp T.nw A.wc T.nf A.fc
  obtain ⟨hm, hdb⟩ := drw_parts hd
  have hwn := (T.ok_parts hok).1
  have hm4 : m ≤ 4 := by omega
  have HB := Lib.hid hb1
  have HF : Hid (∀ (i : Nat) (u : Int), i < m → T.fall x (i : Int) (k : Int) = u → ∀ z : Ext w1, Calls Tryd.prog 52 #[.agg #[.int .i64 T.wn, .slice A.wp T.nw A.wc, .slice A.fp T.nf A.fc], .int .i64 (x : Int), .int .i64 (i : Int), .int .i64 (k : Int)] z.v fun e w' => e = .returned (.int .i64 u) ∧ Below z.v.heap.size z.v w') := fun i u hi hu z => fallR_is hu hok hx (by omega) hk z.v (hT.bel (bT hb1 z.b))
  have HBD : Hid (∀ j : Nat, j < m → 0 ≤ d j * T.fall x (j : Int) (k : Int) ∧ d j * T.fall x (j : Int) (k : Int) ≤ 81) := fun j hj => mul_bd (hdb j hj) (fall_bd hok hx ⟨by omega, by omega⟩ ⟨by omega, hk⟩)
  have HWE := Lib.hid (worst_eq (x := x) (d := d) (i := i) (k := (k : Int)) hm)
  have HP : Hid (∀ z : Ext w1, At z.v z.v.heap.size p m 1 (fun q => .int .i64 (d q))) := fun z => hp.bel (bT hb1 z.b)
  have HBB := Lib.hid hb
  obtain ⟨b4, o4, hpp, -, -⟩ := hp (by omega)
  subst hpp
  have c0 : ∀ z : Ext w1, z.v.cell? ⟨b4, o4 + i, none⟩ = some (.int .i64 (d i)) := fun z => At.cell (f := fun q => .int .i64 (d q)) (HP.out z) (by omega)
  have hii : (i : Int) < (m : Int) := by omega
  have hbi := HBD.out i hi
  obtain ⟨u, hu⟩ : ∃ u, T.fall x (i : Int) (k : Int) = u := ⟨_, rfl⟩
  have HFI := Lib.hid (HF.out i u hi hu)
  rw [hu] at hbi HWE
  have HU := Lib.hid hu
  obtain ⟨lw, hlw⟩ : ∃ v, d i * u = v := ⟨_, rfl⟩
  rw [hlw] at hbi HWE
  have e1 : IntKind.i64.wrap (d i * u) = lw := by rw [hlw]; exact IntWalk.i64_in _ (by omega)
  have HLW := Lib.hid hlw
  clear hb1 hz1 hok hx hk hd hT hm hdb hwn hu hlw hb
  go_enter Tryd.func55, Tryd.ntmps55
  go_wp2
  clear hw1
  refine quiet_e (by kernel_rfl) (by kernel_rfl) ?_
  repeat (first | go_big_quiet_step ((first | (go_at_call 52; exact quiet_x (HFI.out _)))) | quiet_step ((first | (go_at_call 52; exact quiet_x (HFI.out _)))))
  refine wpQuiet_nil ?_
  intro w6 hw6
  obtain ⟨z1, rfl⟩ := hw6
  go_wp2
  clear c0 e1
  go_loopw [12] (fun v wr => ∃ q : Nat, v = .int .i64 (q : Int) ∧ q ≤ m ∧ allN (wstP T x d i (k : Int)) q = true ∧ ∃ z : Ext w1, wr = z.v) (fun v _ => m - (intOf v).toNat)
  case atStart => exact ⟨0, rfl, Nat.zero_le _, rfl, z1, rfl⟩
  case round =>
    clear z1
    obtain ⟨q, rfl, hq, ha, z, rfl⟩ := hrel
    have HA := Lib.hid ha
    clear ha
    by_cases hlt : q < m
    · have jq : decide ((q : Int) < (m : Int)) = true := by simp; omega
      have hqi : (q : Int) < (m : Int) := by omega
      have c1 : ∀ z : Ext w1, z.v.cell? ⟨b4, o4 + q, none⟩ = some (.int .i64 (d q)) := fun z => At.cell (f := fun q => .int .i64 (d q)) (HP.out z) (by omega)
      by_cases h1 : q = i
      · have j1 : ((q : Int) != (i : Int)) = false := by simp; omega
        have HN := Lib.hid (allN_succ HA.out (show wstP T x d i (k : Int) q = true by simp [wstP, h1]))
        clear h1
        go_wp2
        refine quiet_e (by kernel_rfl) (by kernel_rfl) ?_
        repeat (first | go_big_quiet_step (fail) | quiet_step (fail))
        refine wpQuiet_nil ?_
        intro w6 hw6
        obtain ⟨z2, rfl⟩ := hw6
        go_wp2
        go_roundw
        case rel => exact ⟨q + 1, by go_num, hlt, HN.out, z2, rfl⟩
        case measure => first | (simp [intOf]; done) | (simp [intOf]; omega)
      · have j1 : ((q : Int) != (i : Int)) = true := by simp; omega
        by_cases h2 : q = k
        · have j2 : ((q : Int) != (k : Int)) = false := by simp; omega
          have HN := Lib.hid (allN_succ HA.out (show wstP T x d i (k : Int) q = true by simp [wstP, h2]))
          clear h1 h2
          go_wp2
          refine quiet_e (by kernel_rfl) (by kernel_rfl) ?_
          repeat (first | go_big_quiet_step (fail) | quiet_step (fail))
          refine wpQuiet_nil ?_
          intro w6 hw6
          obtain ⟨z2, rfl⟩ := hw6
          go_wp2
          go_roundw
          case rel => exact ⟨q + 1, by go_num, hlt, HN.out, z2, rfl⟩
          case measure => first | (simp [intOf]; done) | (simp [intOf]; omega)
        · have j2 : ((q : Int) != (k : Int)) = true := by simp; omega
          have hbq := HBD.out q hlt
          have HW2 := Lib.hid (show wstP T x d i (k : Int) q = decide (d q * T.fall x (q : Int) (k : Int) < lw) by
            unfold wstP
            rw [HU.out, HLW.out, show decide (q = i) = false by simpa using h1, show decide ((q : Int) = (k : Int)) = false by simp; omega]
            rfl)
          obtain ⟨v, hv⟩ : ∃ v, T.fall x (q : Int) (k : Int) = v := ⟨_, rfl⟩
          have HFQ := Lib.hid (HF.out q v hlt hv)
          rw [hv] at hbq HW2
          have e2 : IntKind.i64.wrap (d q * v) = d q * v := IntWalk.i64_in _ (by omega)
          obtain ⟨r, hr⟩ : ∃ r, d q * v = r := ⟨_, rfl⟩
          rw [hr] at hbq HW2 e2
          have e3 : IntKind.i64.wrap (d q * v) = r := by rw [hr]; exact e2
          clear h1 h2 hv e2 hr
          by_cases h3 : lw ≤ r
          · have j3 : decide (lw ≤ r) = true := by simpa using h3
            have HR := Lib.hid (show false = b by
              rw [← HBB.out]; unfold Tn.isB
              rw [HWE.out, allN_bad hlt (show wstP T x d i (k : Int) q = false by rw [HW2.out]; simp; omega)]; simp)
            go_wp2
            refine quiet_e (by kernel_rfl) (by kernel_rfl) ?_
            repeat (first | go_big_quiet_step ((first | (go_at_call 52; exact quiet_x (HFQ.out _)))) | quiet_step ((first | (go_at_call 52; exact quiet_x (HFQ.out _)))))
            refine wpQuiet_nil ?_
            intro w6 hw6
            obtain ⟨z2, rfl⟩ := hw6
            go_wp2
            go_ret
            exact ⟨ret_b HR.out, bT HB.out z2.b⟩
          · have j3 : decide (lw ≤ r) = false := by simpa using h3
            have HN := Lib.hid (allN_succ HA.out (show wstP T x d i (k : Int) q = true by rw [HW2.out]; simp; omega))
            go_wp2
            refine quiet_e (by kernel_rfl) (by kernel_rfl) ?_
            repeat (first | go_big_quiet_step ((first | (go_at_call 52; exact quiet_x (HFQ.out _)))) | quiet_step ((first | (go_at_call 52; exact quiet_x (HFQ.out _)))))
            refine wpQuiet_nil ?_
            intro w6 hw6
            obtain ⟨z2, rfl⟩ := hw6
            go_wp2
            go_roundw
            case rel => exact ⟨q + 1, by go_num, hlt, HN.out, z2, rfl⟩
            case measure => first | (simp [intOf]; done) | (simp [intOf]; omega)
    · have jq : decide ((q : Int) < (m : Int)) = false := by simp; omega
      have hall : allN (wstP T x d i (k : Int)) m = true := by have := HA.out; rwa [show q = m by omega] at this
      have HR := Lib.hid (show (!decide ((i : Int) = (k : Int)) && decide (0 < lw)) = b by
        rw [← HBB.out]; unfold Tn.isB
        rw [HWE.out, hall]; simp)
      clear hall
      by_cases h1 : i = k
      · have j1 : ((i : Int) != (k : Int)) = false := by simp; omega
        have HR2 := Lib.hid (show false = b by rw [← HR.out, show decide ((i : Int) = (k : Int)) = true by simp; omega]; rfl)
        clear h1
        go_wp2
        go_ret
        exact ⟨ret_b HR2.out, bT HB.out z.b⟩
      · have j1 : ((i : Int) != (k : Int)) = true := by simp; omega
        have HR2 := Lib.hid (show decide (0 < lw) = b by rw [← HR.out, show decide ((i : Int) = (k : Int)) = false by simp; omega]; rfl)
        clear h1
        go_wp2
        go_ret
        exact ⟨ret_b HR2.out, bT HB.out z.b⟩


set_option maxRecDepth 100000 in
set_option maxHeartbeats 8000000 in
theorem totR_no (T : Tn) (A : Adr) (m dc : Nat) (d : Nat → Int) (dp : Option Addr) (k : Int) (er : Int) (w : World) (hs : T.sized) (hi : TnIn w w.heap.size T A) (hm : m ≤ maxLen) (hp : At w w.heap.size dp m 1 (fun q => .int .i64 (d q))) (he : T.wkE (T.isD m d k) = er) (h0 : er ≠ 0) :
    SpanC 31 #[.agg #[.int .i64 T.wn, .slice A.wp T.nw A.wc, .slice A.fp T.nf A.fc], .slice dp m dc, .int .i64 k] 0 0 er w := by
  unfold SpanC
  obtain ⟨w1, x, hw1, hb1, hz1, F0, F1, F2, _⟩ := box_tn w T.wn A.wp A.fp T.nw A.wc T.nf A.fc
  obtain ⟨w2, x2, hw2, hb2, hz2, R0, R1, Rf⟩ := box_sp x.v
  have q1 : ∀ z : Ext w2, Below w1.heap.size w1 z.v := fun z => bT x.b (bT hb2 z.b)
  have HB : Hid (∀ z : Ext w2, Below w.heap.size w z.v) := fun z => bT hb1 (q1 z)
  have HGE := Lib.hid (show w.heap.size ≤ x.v.heap.size ∧ x.v.heap.size < w2.heap.size by have a1 := hb1.size; have a2 := x.b.size; exact ⟨by omega, by omega⟩)
  have f0 : ∀ z : Ext w2, z.v.cell? ⟨w.heap.size, 0, none⟩ = some (.int .i64 T.wn) := fun z => F0 ⟨z.v, q1 z⟩
  have f1 : ∀ z : Ext w2, z.v.cell? ⟨w.heap.size, 1, none⟩ = some (.slice A.wp T.nw A.wc) := fun z => F1 ⟨z.v, q1 z⟩
  have f2 : ∀ z : Ext w2, z.v.cell? ⟨w.heap.size, 2, none⟩ = some (.slice A.fp T.nf A.fc) := fun z => F2 ⟨z.v, q1 z⟩
  obtain ⟨gr, hgr⟩ : ∃ g, x.v.heap.size = g := ⟨_, rfl⟩
  rw [hgr] at R0 R1 Rf HGE
  have HI : Hid (∀ z : Ext w2, TnIn z.v z.v.heap.size T A) := fun z => hi.bel (HB.out z)
  have HP : Hid (∀ z : Ext w2, At z.v z.v.heap.size dp m 1 (fun q => .int .i64 (d q))) := fun z => hp.bel (HB.out z)
  have HS := Lib.hid hs
  have HM := Lib.hid hm
  have H0 := Lib.hid h0
  have je : (er != 0) = true := by simpa using h0
  rw [wkE_D] at he
  clear F0 F1 F2 q1 hb2 hz2 hb1 hz1 hi hs hp hm
  clear h0
  cases h1 : T.drw m d with
  | false =>
    have HDR := Lib.hid h1
    have HE := Lib.hid (show T.wkE false = er by rw [← he, h1]; rfl)
    clear h1 he
    go_enter Tryd.func31, Tryd.ntmps31
    go_wp2
    try rw [hgr]
    refine wp_region_lastE 14 (by kernel_rfl) rfl (fun yr => ?_)
    clear hw1 hw2 hgr
    refine wpAnyG_take (i := 0) (v := ?_) (by kernel_rfl) rfl (by kernel_rfl) (by kernel_rfl) (by kernel_rfl) (fun _ _ _ h => h) (Or.inl ⟨by rfl, ?_⟩) ⟨_, rfl⟩ ?_
    rotate_left
    · rintro wS ⟨yS, rfl⟩
      go_simp
      try (with_reducible rfl)
    try simp only [Act.put, List.setIfInBounds_toArray, List.set_cons_zero, List.set_cons_succ]
    refine wpAnyG_take (i := 1) (v := ?_) (by kernel_rfl) rfl (by kernel_rfl) (by kernel_rfl) (by kernel_rfl) (fun _ _ _ h => h) (Or.inl ⟨by rfl, ?_⟩) ⟨_, rfl⟩ ?_
    rotate_left
    · rintro wS ⟨yS, rfl⟩
      go_simp
      try (with_reducible rfl)
    try simp only [Act.put, List.setIfInBounds_toArray, List.set_cons_zero, List.set_cons_succ]
    refine wpAnyG_take (i := 2) (v := ?_) (by kernel_rfl) rfl (by kernel_rfl) (by kernel_rfl) (by kernel_rfl) (fun _ _ _ h => h) (Or.inl ⟨by rfl, ?_⟩) ⟨_, rfl⟩ ?_
    rotate_left
    · rintro wS ⟨yS, rfl⟩
      go_simp
      try (with_reducible rfl)
    try simp only [Act.put, List.setIfInBounds_toArray, List.set_cons_zero, List.set_cons_succ]
    refine wpAnyG_one (i := 3) (by kernel_rfl) (by decide) (wpOp_plain rfl rfl ?_)
    go_simp
    go_at_call 49
    refine (quiet_x (areDrawsR_is (A := A) HDR.out yr.v HM.out (HP.out yr))).mono ?_
    rintro e w5 ⟨rfl, ya, rfl⟩
    refine ⟨⟨_, rfl⟩, ?_⟩
    try simp only [Act.put, List.setIfInBounds_toArray, List.set_cons_zero, List.set_cons_succ]
    refine wpAnyG_take (i := 4) (v := ?_) (by kernel_rfl) rfl (by kernel_rfl) (by kernel_rfl) (by kernel_rfl) (fun _ _ _ h => h) (Or.inl ⟨by rfl, ?_⟩) ⟨_, rfl⟩ ?_
    rotate_left
    · rintro wS ⟨yS, rfl⟩
      go_simp
      try (with_reducible rfl)
    try simp only [Act.put, List.setIfInBounds_toArray, List.set_cons_zero, List.set_cons_succ]
    refine wpAnyG_take (i := 5) (v := undef) (by kernel_rfl) rfl (by kernel_rfl) (by kernel_rfl) (by kernel_rfl) (fun _ _ _ h => h) (Or.inr ⟨by rfl, rfl⟩) ⟨_, rfl⟩ ?_
    try simp only [Act.put, List.setIfInBounds_toArray, List.set_cons_zero, List.set_cons_succ]
    refine wpAnyG_take (i := 6) (v := undef) (by kernel_rfl) rfl (by kernel_rfl) (by kernel_rfl) (by kernel_rfl) (fun _ _ _ h => h) (Or.inr ⟨by rfl, rfl⟩) ⟨_, rfl⟩ ?_
    try simp only [Act.put, List.setIfInBounds_toArray, List.set_cons_zero, List.set_cons_succ]
    refine wpAnyG_take (i := 7) (v := undef) (by kernel_rfl) rfl (by kernel_rfl) (by kernel_rfl) (by kernel_rfl) (fun _ _ _ h => h) (Or.inr ⟨by rfl, rfl⟩) ⟨_, rfl⟩ ?_
    try simp only [Act.put, List.setIfInBounds_toArray, List.set_cons_zero, List.set_cons_succ]
    refine wpAnyG_take (i := 8) (v := ?_) (by kernel_rfl) rfl (by kernel_rfl) (by kernel_rfl) (by kernel_rfl) (fun _ _ _ h => h) (Or.inl ⟨by rfl, ?_⟩) ⟨_, rfl⟩ ?_
    rotate_left
    · rintro wS ⟨yS, rfl⟩
      go_simp
      try (with_reducible rfl)
    try simp only [Act.put, List.setIfInBounds_toArray, List.set_cons_zero, List.set_cons_succ]
    refine wpAnyG_one (i := 9) (by kernel_rfl) (by decide) (wpOp_plain rfl rfl ?_)
    go_simp
    go_at_call 81
    refine (quiet_x (known_no T A false er ya.v HS.out (HI.out ya) HE.out H0.out)).mono ?_
    rintro e w7 ⟨rfl, yc, rfl⟩
    refine ⟨⟨_, rfl⟩, ?_⟩
    try simp only [Act.put, List.setIfInBounds_toArray, List.set_cons_zero, List.set_cons_succ]
    refine wpAnyG_take (i := 10) (v := ?_) (by kernel_rfl) rfl (by kernel_rfl) (by kernel_rfl) (by kernel_rfl) (fun _ _ _ h => h) (Or.inl ⟨by rfl, ?_⟩) ⟨_, rfl⟩ ?_
    rotate_left
    · rintro wS ⟨yS, rfl⟩
      go_simp
      try (with_reducible rfl)
    try simp only [Act.put, List.setIfInBounds_toArray, List.set_cons_zero, List.set_cons_succ]
    refine wpAnyG_take (i := 11) (v := ?_) (by kernel_rfl) rfl (by kernel_rfl) (by kernel_rfl) (by kernel_rfl) (fun _ _ _ h => h) (Or.inl ⟨by rfl, ?_⟩) ⟨_, rfl⟩ ?_
    rotate_left
    · rintro wS ⟨yS, rfl⟩
      go_simp
      try (with_reducible rfl)
    try simp only [Act.put, List.setIfInBounds_toArray, List.set_cons_zero, List.set_cons_succ]
    refine wpAnyG_take (i := 13) (v := ?_) (by kernel_rfl) rfl (by kernel_rfl) (by kernel_rfl) (by kernel_rfl) (fun _ _ _ h => h) (Or.inl ⟨by rfl, ?_⟩) ⟨_, rfl⟩ ?_
    rotate_left
    · rintro wS ⟨yS, rfl⟩
      go_simp
      try (with_reducible rfl)
    try simp only [Act.put, List.setIfInBounds_toArray, List.set_cons_zero, List.set_cons_succ]
    refine wpAnyG_take (i := 12) (v := ?_) (by kernel_rfl) rfl (by kernel_rfl) (by kernel_rfl) (by kernel_rfl) (fun _ _ _ h => h) (Or.inl ⟨by rfl, ?_⟩) ⟨_, rfl⟩ ?_
    rotate_left
    · rintro wS ⟨yS, rfl⟩
      go_simp
      try (with_reducible rfl)
    try simp only [Act.put, List.setIfInBounds_toArray, List.set_cons_zero, List.set_cons_succ]
    refine wpAnyG_done (by kernel_rfl) (by kernel_rfl) (wpOp_plain rfl rfl ?_)
    go_simp
    have r0 := R0 yc; have r1 := R1 yc; have rf0 := Rf yc 0; have rf1 := Rf yc 1
    obtain ⟨h1, h2, h3⟩ := set_sp (w := w) 0 0 HGE.out.1 r0 r1 (Rf yc) (HB.out yc)
    have H1 := Lib.hid h1
    clear h1 f0 f1 f2 R0 R1 Rf
    go_wp2
    exact bodyPost_ret (v := .tuple #[.agg #[.int .i64 0, .int .i64 0], .int .i64 er]) (by simp [results, Tryd.f31, go_sem, h2, h3]) rfl ⟨rfl, H1.out⟩
  | true =>
    have HDR := Lib.hid h1
    obtain ⟨b2, hb2'⟩ : ∃ b, T.wellW k = b := ⟨_, rfl⟩
    have HWL := Lib.hid hb2'
    have HE := Lib.hid (show T.wkE b2 = er by rw [← he, h1, hb2']; rfl)
    clear h1 he hb2'
    go_enter Tryd.func31, Tryd.ntmps31
    go_wp2
    try rw [hgr]
    refine wp_region_lastE 14 (by kernel_rfl) rfl (fun yr => ?_)
    clear hw1 hw2 hgr
    refine wpAnyG_take (i := 0) (v := ?_) (by kernel_rfl) rfl (by kernel_rfl) (by kernel_rfl) (by kernel_rfl) (fun _ _ _ h => h) (Or.inl ⟨by rfl, ?_⟩) ⟨_, rfl⟩ ?_
    rotate_left
    · rintro wS ⟨yS, rfl⟩
      go_simp
      try (with_reducible rfl)
    try simp only [Act.put, List.setIfInBounds_toArray, List.set_cons_zero, List.set_cons_succ]
    refine wpAnyG_take (i := 1) (v := ?_) (by kernel_rfl) rfl (by kernel_rfl) (by kernel_rfl) (by kernel_rfl) (fun _ _ _ h => h) (Or.inl ⟨by rfl, ?_⟩) ⟨_, rfl⟩ ?_
    rotate_left
    · rintro wS ⟨yS, rfl⟩
      go_simp
      try (with_reducible rfl)
    try simp only [Act.put, List.setIfInBounds_toArray, List.set_cons_zero, List.set_cons_succ]
    refine wpAnyG_take (i := 2) (v := ?_) (by kernel_rfl) rfl (by kernel_rfl) (by kernel_rfl) (by kernel_rfl) (fun _ _ _ h => h) (Or.inl ⟨by rfl, ?_⟩) ⟨_, rfl⟩ ?_
    rotate_left
    · rintro wS ⟨yS, rfl⟩
      go_simp
      try (with_reducible rfl)
    try simp only [Act.put, List.setIfInBounds_toArray, List.set_cons_zero, List.set_cons_succ]
    refine wpAnyG_one (i := 3) (by kernel_rfl) (by decide) (wpOp_plain rfl rfl ?_)
    go_simp
    go_at_call 49
    refine (quiet_x (areDrawsR_is (A := A) HDR.out yr.v HM.out (HP.out yr))).mono ?_
    rintro e w5 ⟨rfl, ya, rfl⟩
    refine ⟨⟨_, rfl⟩, ?_⟩
    try simp only [Act.put, List.setIfInBounds_toArray, List.set_cons_zero, List.set_cons_succ]
    refine wpAnyG_take (i := 4) (v := ?_) (by kernel_rfl) rfl (by kernel_rfl) (by kernel_rfl) (by kernel_rfl) (fun _ _ _ h => h) (Or.inl ⟨by rfl, ?_⟩) ⟨_, rfl⟩ ?_
    rotate_left
    · rintro wS ⟨yS, rfl⟩
      go_simp
      try (with_reducible rfl)
    try simp only [Act.put, List.setIfInBounds_toArray, List.set_cons_zero, List.set_cons_succ]
    refine wpAnyG_take (i := 5) (v := ?_) (by kernel_rfl) rfl (by kernel_rfl) (by kernel_rfl) (by kernel_rfl) (fun _ _ _ h => h) (Or.inl ⟨by rfl, ?_⟩) ⟨_, rfl⟩ ?_
    rotate_left
    · rintro wS ⟨yS, rfl⟩
      go_simp
      try (with_reducible rfl)
    try simp only [Act.put, List.setIfInBounds_toArray, List.set_cons_zero, List.set_cons_succ]
    refine wpAnyG_take (i := 6) (v := ?_) (by kernel_rfl) rfl (by kernel_rfl) (by kernel_rfl) (by kernel_rfl) (fun _ _ _ h => h) (Or.inl ⟨by rfl, ?_⟩) ⟨_, rfl⟩ ?_
    rotate_left
    · rintro wS ⟨yS, rfl⟩
      go_simp
      try (with_reducible rfl)
    try simp only [Act.put, List.setIfInBounds_toArray, List.set_cons_zero, List.set_cons_succ]
    refine wpAnyG_one (i := 7) (by kernel_rfl) (by decide) (wpOp_want rfl (by rfl) ?_)
    go_simp
    go_at_call 47
    refine (quiet_x (isWellRW_is (A := A) HWL.out ya.v)).mono ?_
    rintro e w6 ⟨rfl, yb, rfl⟩
    refine ⟨⟨_, rfl⟩, ?_⟩
    try simp only [Act.put, List.setIfInBounds_toArray, List.set_cons_zero, List.set_cons_succ]
    refine wpAnyG_take (i := 8) (v := ?_) (by kernel_rfl) rfl (by kernel_rfl) (by kernel_rfl) (by kernel_rfl) (fun _ _ _ h => h) (Or.inl ⟨by rfl, ?_⟩) ⟨_, rfl⟩ ?_
    rotate_left
    · rintro wS ⟨yS, rfl⟩
      go_simp
      try (with_reducible rfl)
    try simp only [Act.put, List.setIfInBounds_toArray, List.set_cons_zero, List.set_cons_succ]
    refine wpAnyG_one (i := 9) (by kernel_rfl) (by decide) (wpOp_plain rfl rfl ?_)
    go_simp
    go_at_call 81
    refine (quiet_x (known_no T A b2 er yb.v HS.out (HI.out yb) HE.out H0.out)).mono ?_
    rintro e w7 ⟨rfl, yc, rfl⟩
    refine ⟨⟨_, rfl⟩, ?_⟩
    try simp only [Act.put, List.setIfInBounds_toArray, List.set_cons_zero, List.set_cons_succ]
    refine wpAnyG_take (i := 10) (v := ?_) (by kernel_rfl) rfl (by kernel_rfl) (by kernel_rfl) (by kernel_rfl) (fun _ _ _ h => h) (Or.inl ⟨by rfl, ?_⟩) ⟨_, rfl⟩ ?_
    rotate_left
    · rintro wS ⟨yS, rfl⟩
      go_simp
      try (with_reducible rfl)
    try simp only [Act.put, List.setIfInBounds_toArray, List.set_cons_zero, List.set_cons_succ]
    refine wpAnyG_take (i := 11) (v := ?_) (by kernel_rfl) rfl (by kernel_rfl) (by kernel_rfl) (by kernel_rfl) (fun _ _ _ h => h) (Or.inl ⟨by rfl, ?_⟩) ⟨_, rfl⟩ ?_
    rotate_left
    · rintro wS ⟨yS, rfl⟩
      go_simp
      try (with_reducible rfl)
    try simp only [Act.put, List.setIfInBounds_toArray, List.set_cons_zero, List.set_cons_succ]
    refine wpAnyG_take (i := 13) (v := ?_) (by kernel_rfl) rfl (by kernel_rfl) (by kernel_rfl) (by kernel_rfl) (fun _ _ _ h => h) (Or.inl ⟨by rfl, ?_⟩) ⟨_, rfl⟩ ?_
    rotate_left
    · rintro wS ⟨yS, rfl⟩
      go_simp
      try (with_reducible rfl)
    try simp only [Act.put, List.setIfInBounds_toArray, List.set_cons_zero, List.set_cons_succ]
    refine wpAnyG_take (i := 12) (v := ?_) (by kernel_rfl) rfl (by kernel_rfl) (by kernel_rfl) (by kernel_rfl) (fun _ _ _ h => h) (Or.inl ⟨by rfl, ?_⟩) ⟨_, rfl⟩ ?_
    rotate_left
    · rintro wS ⟨yS, rfl⟩
      go_simp
      try (with_reducible rfl)
    try simp only [Act.put, List.setIfInBounds_toArray, List.set_cons_zero, List.set_cons_succ]
    refine wpAnyG_done (by kernel_rfl) (by kernel_rfl) (wpOp_plain rfl rfl ?_)
    go_simp
    have r0 := R0 yc; have r1 := R1 yc; have rf0 := Rf yc 0; have rf1 := Rf yc 1
    obtain ⟨h1, h2, h3⟩ := set_sp (w := w) 0 0 HGE.out.1 r0 r1 (Rf yc) (HB.out yc)
    have H1 := Lib.hid h1
    clear h1 f0 f1 f2 R0 R1 Rf
    go_wp2
    exact bodyPost_ret (v := .tuple #[.agg #[.int .i64 0, .int .i64 0], .int .i64 er]) (by simp [results, Tryd.f31, go_sem, h2, h3]) rfl ⟨rfl, H1.out⟩
set_option maxRecDepth 100000 in
set_option maxHeartbeats 8000000 in
theorem totR_ok (T : Tn) (A : Adr) (m dc : Nat) (d : Nat → Int) (dp : Option Addr) (k : Int) (w : World) (hs : T.sized) (hi : TnIn w w.heap.size T A) (hm : m ≤ maxLen) (hp : At w w.heap.size dp m 1 (fun q => .int .i64 (d q))) (he : T.wkE (T.isD m d k) = 0) :
    SpanC 31 #[.agg #[.int .i64 T.wn, .slice A.wp T.nw A.wc, .slice A.fp T.nf A.fc], .slice dp m dc, .int .i64 k] (mnL (T.lw2 d k) T.LL) (mxL (T.lw2 d k) T.LL) 0 w := by
  unfold SpanC
  obtain ⟨w1, x, hw1, hb1, hz1, F0, F1, F2, _⟩ := box_tn w T.wn A.wp A.fp T.nw A.wc T.nf A.fc
  obtain ⟨w2, x2, hw2, hb2, hz2, R0, R1, Rf⟩ := box_sp x.v
  have q1 : ∀ z : Ext w2, Below w1.heap.size w1 z.v := fun z => bT x.b (bT hb2 z.b)
  have HB : Hid (∀ z : Ext w2, Below w.heap.size w z.v) := fun z => bT hb1 (q1 z)
  have HGE := Lib.hid (show w.heap.size ≤ x.v.heap.size ∧ x.v.heap.size < w2.heap.size by have a1 := hb1.size; have a2 := x.b.size; exact ⟨by omega, by omega⟩)
  have f0 : ∀ z : Ext w2, z.v.cell? ⟨w.heap.size, 0, none⟩ = some (.int .i64 T.wn) := fun z => F0 ⟨z.v, q1 z⟩
  have f1 : ∀ z : Ext w2, z.v.cell? ⟨w.heap.size, 1, none⟩ = some (.slice A.wp T.nw A.wc) := fun z => F1 ⟨z.v, q1 z⟩
  have f2 : ∀ z : Ext w2, z.v.cell? ⟨w.heap.size, 2, none⟩ = some (.slice A.fp T.nf A.fc) := fun z => F2 ⟨z.v, q1 z⟩
  obtain ⟨gr, hgr⟩ : ∃ g, x.v.heap.size = g := ⟨_, rfl⟩
  rw [hgr] at R0 R1 Rf HGE
  have HI : Hid (∀ z : Ext w2, TnIn z.v z.v.heap.size T A) := fun z => hi.bel (HB.out z)
  have HP : Hid (∀ z : Ext w2, At z.v z.v.heap.size dp m 1 (fun q => .int .i64 (d q))) := fun z => hp.bel (HB.out z)
  have HS := Lib.hid hs
  have HM := Lib.hid hm
  obtain ⟨hok, his, hl⟩ := wkE_zero he
  obtain ⟨hdr, hwl, b, rfl, hb⟩ := isD_nat his
  have HDR := Lib.hid hdr; have HWL := Lib.hid ((wellW_ok hok _).trans hwl)
  have HE := Lib.hid (show T.wkE true = 0 by rw [his] at he; exact he)
  have HLB := Lib.hid (show T.LL.length ≤ 6 from Nat.le_trans pick_len (T.ok_parts hok).2.1)
  have HMEM : Hid (∀ k, k < T.LL.length → T.LL.getD k 0 < T.nw) := fun k hk => (pick_mem.1 (getD_mem hk)).1
  obtain ⟨n, hn⟩ : ∃ n, T.LL.length = n := ⟨_, rfl⟩
  have HN := Lib.hid hn
  have hn0 : 0 < n := by rw [← hn]; exact List.length_pos_iff.2 hl
  have hn6 : n ≤ 6 := by rw [← hn]; exact HLB.out
  have HFL : Hid (∀ (x : Nat) (v : Int), T.lw2 d b x = v → x < T.nw → ∀ z : Ext w2, Calls Tryd.prog 53 #[.agg #[.int .i64 T.wn, .slice A.wp T.nw A.wc, .slice A.fp T.nf A.fc], .int .i64 (x : Int), .slice dp m dc, .int .i64 (b : Int)] z.v fun e w' => e = .returned (.int .i64 v) ∧ Below z.v.heap.size z.v w') := fun x v hv hx z => lowersR_is hv hok hx hb hdr z.v (HI.out z) (HP.out z)
  have HMN := Lib.hid (show ∀ x, x ∈ T.LL → fdL min (T.lw2 d b) (T.lw2 d b x) T.LL = mnL (T.lw2 d b) T.LL from fun x hx => fd_min_first hx)
  have HMX := Lib.hid (show ∀ x, x ∈ T.LL → fdL max (T.lw2 d b) (T.lw2 d b x) T.LL = mxL (T.lw2 d b) T.LL from fun x hx => fd_max_first hx)
  obtain ⟨lo0, hlo0⟩ : ∃ v, mnL (T.lw2 d b) T.LL = v := ⟨_, rfl⟩
  obtain ⟨hi0, hhi0⟩ : ∃ v, mxL (T.lw2 d b) T.LL = v := ⟨_, rfl⟩
  rw [hlo0] at HMN ⊢
  rw [hhi0] at HMX ⊢
  clear F0 F1 F2 q1 hb2 hz2 hb1 hz1 hi hs hp hm his he hok hl hb hdr hwl hn hlo0 hhi0
  go_enter Tryd.func31, Tryd.ntmps31
  go_wp2
  try rw [hgr]
  refine wp_region_lastE 14 (by kernel_rfl) rfl (fun yr => ?_)
  clear hw1 hw2 hgr
  refine wpAnyG_take (i := 0) (v := ?_) (by kernel_rfl) rfl (by kernel_rfl) (by kernel_rfl) (by kernel_rfl) (fun _ _ _ h => h) (Or.inl ⟨by rfl, ?_⟩) ⟨_, rfl⟩ ?_
  rotate_left
  · rintro wS ⟨yS, rfl⟩
    go_simp
    try (with_reducible rfl)
  try simp only [Act.put, List.setIfInBounds_toArray, List.set_cons_zero, List.set_cons_succ]
  refine wpAnyG_take (i := 1) (v := ?_) (by kernel_rfl) rfl (by kernel_rfl) (by kernel_rfl) (by kernel_rfl) (fun _ _ _ h => h) (Or.inl ⟨by rfl, ?_⟩) ⟨_, rfl⟩ ?_
  rotate_left
  · rintro wS ⟨yS, rfl⟩
    go_simp
    try (with_reducible rfl)
  try simp only [Act.put, List.setIfInBounds_toArray, List.set_cons_zero, List.set_cons_succ]
  refine wpAnyG_take (i := 2) (v := ?_) (by kernel_rfl) rfl (by kernel_rfl) (by kernel_rfl) (by kernel_rfl) (fun _ _ _ h => h) (Or.inl ⟨by rfl, ?_⟩) ⟨_, rfl⟩ ?_
  rotate_left
  · rintro wS ⟨yS, rfl⟩
    go_simp
    try (with_reducible rfl)
  try simp only [Act.put, List.setIfInBounds_toArray, List.set_cons_zero, List.set_cons_succ]
  refine wpAnyG_one (i := 3) (by kernel_rfl) (by decide) (wpOp_plain rfl rfl ?_)
  go_simp
  go_at_call 49
  refine (quiet_x (areDrawsR_is (A := A) HDR.out yr.v HM.out (HP.out yr))).mono ?_
  rintro e w5 ⟨rfl, ya, rfl⟩
  refine ⟨⟨_, rfl⟩, ?_⟩
  try simp only [Act.put, List.setIfInBounds_toArray, List.set_cons_zero, List.set_cons_succ]
  refine wpAnyG_take (i := 4) (v := ?_) (by kernel_rfl) rfl (by kernel_rfl) (by kernel_rfl) (by kernel_rfl) (fun _ _ _ h => h) (Or.inl ⟨by rfl, ?_⟩) ⟨_, rfl⟩ ?_
  rotate_left
  · rintro wS ⟨yS, rfl⟩
    go_simp
    try (with_reducible rfl)
  try simp only [Act.put, List.setIfInBounds_toArray, List.set_cons_zero, List.set_cons_succ]
  refine wpAnyG_take (i := 5) (v := ?_) (by kernel_rfl) rfl (by kernel_rfl) (by kernel_rfl) (by kernel_rfl) (fun _ _ _ h => h) (Or.inl ⟨by rfl, ?_⟩) ⟨_, rfl⟩ ?_
  rotate_left
  · rintro wS ⟨yS, rfl⟩
    go_simp
    try (with_reducible rfl)
  try simp only [Act.put, List.setIfInBounds_toArray, List.set_cons_zero, List.set_cons_succ]
  refine wpAnyG_take (i := 6) (v := ?_) (by kernel_rfl) rfl (by kernel_rfl) (by kernel_rfl) (by kernel_rfl) (fun _ _ _ h => h) (Or.inl ⟨by rfl, ?_⟩) ⟨_, rfl⟩ ?_
  rotate_left
  · rintro wS ⟨yS, rfl⟩
    go_simp
    try (with_reducible rfl)
  try simp only [Act.put, List.setIfInBounds_toArray, List.set_cons_zero, List.set_cons_succ]
  refine wpAnyG_one (i := 7) (by kernel_rfl) (by decide) (wpOp_want rfl (by rfl) ?_)
  go_simp
  go_at_call 47
  refine (quiet_x (isWellRW_is (A := A) HWL.out ya.v)).mono ?_
  rintro e w6 ⟨rfl, yb, rfl⟩
  refine ⟨⟨_, rfl⟩, ?_⟩
  try simp only [Act.put, List.setIfInBounds_toArray, List.set_cons_zero, List.set_cons_succ]
  refine wpAnyG_take (i := 8) (v := ?_) (by kernel_rfl) rfl (by kernel_rfl) (by kernel_rfl) (by kernel_rfl) (fun _ _ _ h => h) (Or.inl ⟨by rfl, ?_⟩) ⟨_, rfl⟩ ?_
  rotate_left
  · rintro wS ⟨yS, rfl⟩
    go_simp
    try (with_reducible rfl)
  try simp only [Act.put, List.setIfInBounds_toArray, List.set_cons_zero, List.set_cons_succ]
  refine wpAnyG_one (i := 9) (by kernel_rfl) (by decide) (wpOp_plain rfl rfl ?_)
  go_simp
  go_at_call 81
  refine (known_ok T A true yb.v HS.out (HI.out yb) HE.out).mono ?_
  rintro e w8 ⟨p, c, rfl, hat, hb⟩
  obtain ⟨yc, rfl⟩ : ∃ z : Ext w2, w8 = z.v := ⟨⟨w8, bT yb.b hb⟩, rfl⟩
  have HAT := Lib.hid hat
  clear hat hb
  refine ⟨⟨_, rfl⟩, ?_⟩
  try simp only [Act.put, List.setIfInBounds_toArray, List.set_cons_zero, List.set_cons_succ]
  refine wpAnyG_take (i := 10) (v := ?_) (by kernel_rfl) rfl (by kernel_rfl) (by kernel_rfl) (by kernel_rfl) (fun _ _ _ h => h) (Or.inl ⟨by rfl, ?_⟩) ⟨_, rfl⟩ ?_
  rotate_left
  · rintro wS ⟨yS, rfl⟩
    go_simp
    try (with_reducible rfl)
  try simp only [Act.put, List.setIfInBounds_toArray, List.set_cons_zero, List.set_cons_succ]
  refine wpAnyG_take (i := 11) (v := ?_) (by kernel_rfl) rfl (by kernel_rfl) (by kernel_rfl) (by kernel_rfl) (fun _ _ _ h => h) (Or.inl ⟨by rfl, ?_⟩) ⟨_, rfl⟩ ?_
  rotate_left
  · rintro wS ⟨yS, rfl⟩
    go_simp
    try (with_reducible rfl)
  try simp only [Act.put, List.setIfInBounds_toArray, List.set_cons_zero, List.set_cons_succ]
  refine wpAnyG_take (i := 13) (v := ?_) (by kernel_rfl) rfl (by kernel_rfl) (by kernel_rfl) (by kernel_rfl) (fun _ _ _ h => h) (Or.inl ⟨by rfl, ?_⟩) ⟨_, rfl⟩ ?_
  rotate_left
  · rintro wS ⟨yS, rfl⟩
    go_simp
    try (with_reducible rfl)
  try simp only [Act.put, List.setIfInBounds_toArray, List.set_cons_zero, List.set_cons_succ]
  refine wpAnyG_take (i := 12) (v := ?_) (by kernel_rfl) rfl (by kernel_rfl) (by kernel_rfl) (by kernel_rfl) (fun _ _ _ h => h) (Or.inl ⟨by rfl, ?_⟩) ⟨_, rfl⟩ ?_
  rotate_left
  · rintro wS ⟨yS, rfl⟩
    go_simp
    try (with_reducible rfl)
  try simp only [Act.put, List.setIfInBounds_toArray, List.set_cons_zero, List.set_cons_succ]
  refine wpAnyG_done (by kernel_rfl) (by kernel_rfl) (wpOp_plain rfl rfl ?_)
  go_simp
  rw [HN.out] at HAT ⊢
  obtain ⟨b3, o3, hp3, _, _⟩ := HAT.out hn0
  have HP3 := Lib.hid hp3
  subst hp3
  have e0 : ∀ z : Ext yc.v, z.v.cell? ⟨b3, o3, none⟩ = some (.int .i64 (nats T.LL 0)) := fun z => by have := At.cell (k := 0) (HAT.out.bel z.b) (by omega); simpa using this
  obtain ⟨x0, hx0⟩ : ∃ x, T.LL.getD 0 0 = x := ⟨_, rfl⟩
  have hx0n : nats T.LL 0 = (x0 : Int) := by unfold nats; rw [hx0]
  rw [hx0n] at e0
  obtain ⟨v0, hv0⟩ : ∃ v, T.lw2 d b x0 = v := ⟨_, rfl⟩
  have HX0 := Lib.hid (show x0 ∈ T.LL by rw [← hx0]; exact getD_mem (by rw [HN.out]; exact hn0))
  have HV0 := Lib.hid hv0
  have HF0 := Lib.hid (HFL.out x0 v0 hv0 (by rw [← hx0]; exact HMEM.out 0 (by rw [HN.out]; exact hn0)))
  have g0 : ∀ z : Ext yc.v, z.v.cell? ⟨w.heap.size, 0, none⟩ = some (.int .i64 T.wn) := fun z => f0 ⟨z.v, bT yc.b z.b⟩
  have g1 : ∀ z : Ext yc.v, z.v.cell? ⟨w.heap.size, 1, none⟩ = some (.slice A.wp T.nw A.wc) := fun z => f1 ⟨z.v, bT yc.b z.b⟩
  have g2 : ∀ z : Ext yc.v, z.v.cell? ⟨w.heap.size, 2, none⟩ = some (.slice A.fp T.nf A.fc) := fun z => f2 ⟨z.v, bT yc.b z.b⟩
  have hn0i : 0 < (n : Int) := by omega
  obtain ⟨zz, hzz⟩ := rebase yc.v
  clear hx0 hx0n hv0 f0 f1 f2
  go_wp2
  try rw [hzz]
  clear hzz
  refine quiet_e (by kernel_rfl) (by kernel_rfl) ?_
  repeat (first | go_big_quiet_step ((first | (go_at_call 53; exact quiet_x (HF0.out ⟨Ext.v _, bT yc.b (Ext.b _)⟩)))) | quiet_step ((first | (go_at_call 53; exact quiet_x (HF0.out ⟨Ext.v _, bT yc.b (Ext.b _)⟩)))))
  refine wpQuiet_nil ?_
  intro w6 hw6
  obtain ⟨z1, rfl⟩ := hw6
  obtain ⟨ws, hws, hbs, hls, s0, s1, sf⟩ := box_s2 z1.v v0 v0
  have HSP0 : Hid (SpAt ws z1.v.heap.size v0 v0) := ⟨hls, s0, s1, sf⟩
  obtain ⟨gs, hgs⟩ : ∃ g, z1.v.heap.size = g := ⟨_, rfl⟩
  have HGS := Lib.hid (show yc.v.heap.size ≤ gs by rw [← hgs]; exact z1.b.size)
  rw [hgs] at HSP0
  obtain ⟨y0, hy0⟩ : ∃ z : Ext yc.v, ws = z.v := ⟨⟨ws, bT z1.b hbs⟩, rfl⟩
  rw [hy0] at HSP0 hws
  clear hbs hls s0 s1 sf hy0
  go_wp2
  try rw [hgs]
  clear hws hgs e0
  go_loopw [12] (fun i wr => ∃ q : Nat, i = .int .i64 q ∧ q ≤ n ∧ ∃ y : Ext yc.v, wr = y.v ∧ SpAt y.v gs (fdL min (T.lw2 d b) v0 (T.LL.take q)) (fdL max (T.lw2 d b) v0 (T.LL.take q))) (fun i _ => n - (intOf i).toNat)
  case atStart => exact ⟨0, rfl, Nat.zero_le _, y0, rfl, HSP0.out⟩
  case round =>
    clear y0 HSP0
    obtain ⟨q, rfl, hq, y, rfl, hsp⟩ := hrel
    have HSP := Lib.hid hsp
    clear hsp
    by_cases hlt : q < n
    · have j : decide ((q : Int) < (n : Int)) = true := by simp; omega
      have hlti : (q : Int) < (n : Int) := by omega
      obtain ⟨x, hx⟩ : ∃ x, T.LL.getD q 0 = x := ⟨_, rfl⟩
      have hxn : nats T.LL q = (x : Int) := by unfold nats; rw [hx]
      have e1 : ∀ z : Ext y.v, z.v.cell? ⟨b3, o3 + q, none⟩ = some (.int .i64 (x : Int)) := fun z => by have := At.cell (k := q) ((HAT.out.bel y.b).bel z.b) (by omega); rw [← hxn]; simpa using this
      obtain ⟨v, hv⟩ : ∃ v, T.lw2 d b x = v := ⟨_, rfl⟩
      have HFX := Lib.hid (HFL.out x v hv (by rw [← hx]; exact HMEM.out q (by rw [HN.out]; exact hlt)))
      have HTK := Lib.hid (show T.LL.take (q + 1) = T.LL.take q ++ [x] by rw [take_snoc (by rw [HN.out]; exact hlt), hx])
      have k0 : ∀ z : Ext y.v, z.v.cell? ⟨w.heap.size, 0, none⟩ = some (.int .i64 T.wn) := fun z => g0 ⟨z.v, bT y.b z.b⟩
      have k1 : ∀ z : Ext y.v, z.v.cell? ⟨w.heap.size, 1, none⟩ = some (.slice A.wp T.nw A.wc) := fun z => g1 ⟨z.v, bT y.b z.b⟩
      have k2 : ∀ z : Ext y.v, z.v.cell? ⟨w.heap.size, 2, none⟩ = some (.slice A.fp T.nf A.fc) := fun z => g2 ⟨z.v, bT y.b z.b⟩
      obtain ⟨lo, hlo⟩ : ∃ v, fdL min (T.lw2 d b) v0 (T.LL.take q) = v := ⟨_, rfl⟩
      obtain ⟨hi', hhi⟩ : ∃ v, fdL max (T.lw2 d b) v0 (T.LL.take q) = v := ⟨_, rfl⟩
      rw [hlo, hhi] at HSP
      obtain ⟨lo', hlo'⟩ : ∃ u, min lo v = u := ⟨_, rfl⟩
      obtain ⟨hi2, hhi2⟩ : ∃ u, max hi' v = u := ⟨_, rfl⟩
      have HL1 := Lib.hid (show fdL min (T.lw2 d b) v0 (T.LL.take (q + 1)) = lo' by rw [HTK.out, fd_snoc, hlo, hv]; exact hlo')
      have HH1 := Lib.hid (show fdL max (T.lw2 d b) v0 (T.LL.take (q + 1)) = hi2 by rw [HTK.out, fd_snoc, hhi, hv]; exact hhi2)
      have t1 : (if v < lo then v else lo) = lo' := by rw [← hlo']; split <;> omega
      have t2 : (if lo < v then lo else v) = lo' := by rw [← hlo']; split <;> omega
      have t3 : (if hi' < v then v else hi') = hi2 := by rw [← hhi2]; split <;> omega
      have t4 : (if v < hi' then hi' else v) = hi2 := by rw [← hhi2]; split <;> omega
      obtain ⟨zz, hzz⟩ := rebase y.v
      have HTS := Lib.hid (And.intro t1 (And.intro t2 (And.intro t3 t4)))
      clear hx hxn hv hlo hhi hlo' hhi2 g0 g1 g2 t1 t2 t3 t4
      go_wp2
      try rw [hzz]
      clear hzz
      refine quiet_e (by kernel_rfl) (by kernel_rfl) ?_
      repeat (first | go_big_quiet_step ((first | (go_at_call 53; exact quiet_x (HFX.out ⟨Ext.v _, bT yc.b (bT y.b (Ext.b _))⟩)))) | quiet_step ((first | (go_at_call 53; exact quiet_x (HFX.out ⟨Ext.v _, bT yc.b (bT y.b (Ext.b _))⟩)))))
      refine wpQuiet_nil ?_
      intro w6 hw6
      obtain ⟨z2, rfl⟩ := hw6
      have HSP2 := Lib.hid (HSP.out.bel z2.b)
      have s0 := HSP2.out.c0; have s1 := HSP2.out.c1; have sf0 := HSP2.out.fz 0; have sf1 := HSP2.out.fz 1
      obtain ⟨t1, t2, t3, t4⟩ := HTS.out
      have HNX := Lib.hid (HSP2.out.set lo' hi2)
      have HBN := Lib.hid (bS (bS (bT y.b z2.b) HGS.out (p := ⟨gs, 0, none⟩) (.int .i64 lo')) HGS.out (p := ⟨gs, 1, none⟩) (.int .i64 hi2))
      go_wp2
      go_roundw
      case rel => exact ⟨q + 1, by go_num, hlt, ⟨_, HBN.out⟩, rfl, by rw [HL1.out, HH1.out]; exact HNX.out⟩
      case measure => first | (simp [intOf]; done) | (simp [intOf]; omega)
    · have HQN := Lib.hid (show T.LL.take q = T.LL by rw [show q = n by omega, ← HN.out, List.take_length])
      have j : decide ((q : Int) < (n : Int)) = false := by simp; omega
      rw [HQN.out, ← HV0.out, HMN.out x0 HX0.out, HMX.out x0 HX0.out] at HSP
      have s0 := HSP.out.c0; have s1 := HSP.out.c1
      have hrr : Below w2.heap.size w2 y.v := bT yc.b y.b
      have r0 := R0 ⟨y.v, hrr⟩; have r1 := R1 ⟨y.v, hrr⟩; have rf0 := Rf ⟨y.v, hrr⟩ 0; have rf1 := Rf ⟨y.v, hrr⟩ 1
      obtain ⟨h1, h2, h3⟩ := set_sp (w := w) lo0 hi0 HGE.out.1 r0 r1 (Rf ⟨y.v, hrr⟩) (HB.out ⟨y.v, hrr⟩)
      have H1 := Lib.hid h1
      dsimp only at r0 r1 rf0 rf1 h2 h3 H1
      clear h1 g0 g1 g2 R0 R1 Rf hrr
      go_wp2
      exact bodyPost_ret (v := .tuple #[.agg #[.int .i64 lo0, .int .i64 hi0], .int .i64 0]) (by simp [results, Tryd.f31, go_sem, h2, h3]) rfl ⟨rfl, H1.out⟩
set_option maxRecDepth 100000 in
set_option maxHeartbeats 8000000 in
theorem blmR_no (T : Tn) (A : Adr) (m dc : Nat) (d : Nat → Int) (dp : Option Addr) (k : Int) (er : Int) (w : World) (hs : T.sized) (hi : TnIn w w.heap.size T A) (hm : m ≤ maxLen) (hp : At w w.heap.size dp m 1 (fun q => .int .i64 (d q))) (he : T.wkE (T.isD m d k) = er) (h0 : er ≠ 0) :
    IntC 33 #[.agg #[.int .i64 T.wn, .slice A.wp T.nw A.wc, .slice A.fp T.nf A.fc], .slice dp m dc, .int .i64 k] 0 er w := by
  unfold IntC
  obtain ⟨w1, x, hw1, hb1, hz1, F0, F1, F2, _⟩ := box_tn w T.wn A.wp A.fp T.nw A.wc T.nf A.fc
  have HB : Hid (∀ z : Ext w1, Below w.heap.size w z.v) := fun z => bT hb1 z.b
  have f0 := F0; have f1 := F1; have f2 := F2
  have HI : Hid (∀ z : Ext w1, TnIn z.v z.v.heap.size T A) := fun z => hi.bel (HB.out z)
  have HP : Hid (∀ z : Ext w1, At z.v z.v.heap.size dp m 1 (fun q => .int .i64 (d q))) := fun z => hp.bel (HB.out z)
  have HS := Lib.hid hs
  have HM := Lib.hid hm
  have H0 := Lib.hid h0
  have je : (er != 0) = true := by simpa using h0
  rw [wkE_D] at he
  clear F0 F1 F2 hb1 hz1 hi hs hp hm
  clear h0
  cases h1 : T.drw m d with
  | false =>
    have HDR := Lib.hid h1
    have HE := Lib.hid (show T.wkE false = er by rw [← he, h1]; rfl)
    clear h1 he
    go_enter Tryd.func33, Tryd.ntmps33
    go_wp2
    refine wp_region_lastE 14 (by kernel_rfl) rfl (fun yr => ?_)
    clear hw1
    refine wpAnyG_take (i := 0) (v := ?_) (by kernel_rfl) rfl (by kernel_rfl) (by kernel_rfl) (by kernel_rfl) (fun _ _ _ h => h) (Or.inl ⟨by rfl, ?_⟩) ⟨_, rfl⟩ ?_
    rotate_left
    · rintro wS ⟨yS, rfl⟩
      go_simp
      try (with_reducible rfl)
    try simp only [Act.put, List.setIfInBounds_toArray, List.set_cons_zero, List.set_cons_succ]
    refine wpAnyG_take (i := 1) (v := ?_) (by kernel_rfl) rfl (by kernel_rfl) (by kernel_rfl) (by kernel_rfl) (fun _ _ _ h => h) (Or.inl ⟨by rfl, ?_⟩) ⟨_, rfl⟩ ?_
    rotate_left
    · rintro wS ⟨yS, rfl⟩
      go_simp
      try (with_reducible rfl)
    try simp only [Act.put, List.setIfInBounds_toArray, List.set_cons_zero, List.set_cons_succ]
    refine wpAnyG_take (i := 2) (v := ?_) (by kernel_rfl) rfl (by kernel_rfl) (by kernel_rfl) (by kernel_rfl) (fun _ _ _ h => h) (Or.inl ⟨by rfl, ?_⟩) ⟨_, rfl⟩ ?_
    rotate_left
    · rintro wS ⟨yS, rfl⟩
      go_simp
      try (with_reducible rfl)
    try simp only [Act.put, List.setIfInBounds_toArray, List.set_cons_zero, List.set_cons_succ]
    refine wpAnyG_one (i := 3) (by kernel_rfl) (by decide) (wpOp_plain rfl rfl ?_)
    go_simp
    go_at_call 49
    refine (quiet_x (areDrawsR_is (A := A) HDR.out yr.v HM.out (HP.out yr))).mono ?_
    rintro e w5 ⟨rfl, ya, rfl⟩
    refine ⟨⟨_, rfl⟩, ?_⟩
    try simp only [Act.put, List.setIfInBounds_toArray, List.set_cons_zero, List.set_cons_succ]
    refine wpAnyG_take (i := 4) (v := ?_) (by kernel_rfl) rfl (by kernel_rfl) (by kernel_rfl) (by kernel_rfl) (fun _ _ _ h => h) (Or.inl ⟨by rfl, ?_⟩) ⟨_, rfl⟩ ?_
    rotate_left
    · rintro wS ⟨yS, rfl⟩
      go_simp
      try (with_reducible rfl)
    try simp only [Act.put, List.setIfInBounds_toArray, List.set_cons_zero, List.set_cons_succ]
    refine wpAnyG_take (i := 5) (v := undef) (by kernel_rfl) rfl (by kernel_rfl) (by kernel_rfl) (by kernel_rfl) (fun _ _ _ h => h) (Or.inr ⟨by rfl, rfl⟩) ⟨_, rfl⟩ ?_
    try simp only [Act.put, List.setIfInBounds_toArray, List.set_cons_zero, List.set_cons_succ]
    refine wpAnyG_take (i := 6) (v := undef) (by kernel_rfl) rfl (by kernel_rfl) (by kernel_rfl) (by kernel_rfl) (fun _ _ _ h => h) (Or.inr ⟨by rfl, rfl⟩) ⟨_, rfl⟩ ?_
    try simp only [Act.put, List.setIfInBounds_toArray, List.set_cons_zero, List.set_cons_succ]
    refine wpAnyG_take (i := 7) (v := undef) (by kernel_rfl) rfl (by kernel_rfl) (by kernel_rfl) (by kernel_rfl) (fun _ _ _ h => h) (Or.inr ⟨by rfl, rfl⟩) ⟨_, rfl⟩ ?_
    try simp only [Act.put, List.setIfInBounds_toArray, List.set_cons_zero, List.set_cons_succ]
    refine wpAnyG_take (i := 8) (v := ?_) (by kernel_rfl) rfl (by kernel_rfl) (by kernel_rfl) (by kernel_rfl) (fun _ _ _ h => h) (Or.inl ⟨by rfl, ?_⟩) ⟨_, rfl⟩ ?_
    rotate_left
    · rintro wS ⟨yS, rfl⟩
      go_simp
      try (with_reducible rfl)
    try simp only [Act.put, List.setIfInBounds_toArray, List.set_cons_zero, List.set_cons_succ]
    refine wpAnyG_one (i := 9) (by kernel_rfl) (by decide) (wpOp_plain rfl rfl ?_)
    go_simp
    go_at_call 81
    refine (quiet_x (known_no T A false er ya.v HS.out (HI.out ya) HE.out H0.out)).mono ?_
    rintro e w7 ⟨rfl, yc, rfl⟩
    refine ⟨⟨_, rfl⟩, ?_⟩
    try simp only [Act.put, List.setIfInBounds_toArray, List.set_cons_zero, List.set_cons_succ]
    refine wpAnyG_take (i := 10) (v := ?_) (by kernel_rfl) rfl (by kernel_rfl) (by kernel_rfl) (by kernel_rfl) (fun _ _ _ h => h) (Or.inl ⟨by rfl, ?_⟩) ⟨_, rfl⟩ ?_
    rotate_left
    · rintro wS ⟨yS, rfl⟩
      go_simp
      try (with_reducible rfl)
    try simp only [Act.put, List.setIfInBounds_toArray, List.set_cons_zero, List.set_cons_succ]
    refine wpAnyG_take (i := 11) (v := ?_) (by kernel_rfl) rfl (by kernel_rfl) (by kernel_rfl) (by kernel_rfl) (fun _ _ _ h => h) (Or.inl ⟨by rfl, ?_⟩) ⟨_, rfl⟩ ?_
    rotate_left
    · rintro wS ⟨yS, rfl⟩
      go_simp
      try (with_reducible rfl)
    try simp only [Act.put, List.setIfInBounds_toArray, List.set_cons_zero, List.set_cons_succ]
    refine wpAnyG_take (i := 13) (v := ?_) (by kernel_rfl) rfl (by kernel_rfl) (by kernel_rfl) (by kernel_rfl) (fun _ _ _ h => h) (Or.inl ⟨by rfl, ?_⟩) ⟨_, rfl⟩ ?_
    rotate_left
    · rintro wS ⟨yS, rfl⟩
      go_simp
      try (with_reducible rfl)
    try simp only [Act.put, List.setIfInBounds_toArray, List.set_cons_zero, List.set_cons_succ]
    refine wpAnyG_take (i := 12) (v := ?_) (by kernel_rfl) rfl (by kernel_rfl) (by kernel_rfl) (by kernel_rfl) (fun _ _ _ h => h) (Or.inl ⟨by rfl, ?_⟩) ⟨_, rfl⟩ ?_
    rotate_left
    · rintro wS ⟨yS, rfl⟩
      go_simp
      try (with_reducible rfl)
    try simp only [Act.put, List.setIfInBounds_toArray, List.set_cons_zero, List.set_cons_succ]
    refine wpAnyG_done (by kernel_rfl) (by kernel_rfl) (wpOp_plain rfl rfl ?_)
    go_simp
    clear f0 f1 f2
    go_wp2
    exact bodyPost_ret (v := .tuple #[.int .i64 0, .int .i64 er]) (by simp [results, Tryd.f33, go_sem]) rfl ⟨rfl, HB.out yc⟩
  | true =>
    have HDR := Lib.hid h1
    obtain ⟨b2, hb2'⟩ : ∃ b, T.wellW k = b := ⟨_, rfl⟩
    have HWL := Lib.hid hb2'
    have HE := Lib.hid (show T.wkE b2 = er by rw [← he, h1, hb2']; rfl)
    clear h1 he hb2'
    go_enter Tryd.func33, Tryd.ntmps33
    go_wp2
    refine wp_region_lastE 14 (by kernel_rfl) rfl (fun yr => ?_)
    clear hw1
    refine wpAnyG_take (i := 0) (v := ?_) (by kernel_rfl) rfl (by kernel_rfl) (by kernel_rfl) (by kernel_rfl) (fun _ _ _ h => h) (Or.inl ⟨by rfl, ?_⟩) ⟨_, rfl⟩ ?_
    rotate_left
    · rintro wS ⟨yS, rfl⟩
      go_simp
      try (with_reducible rfl)
    try simp only [Act.put, List.setIfInBounds_toArray, List.set_cons_zero, List.set_cons_succ]
    refine wpAnyG_take (i := 1) (v := ?_) (by kernel_rfl) rfl (by kernel_rfl) (by kernel_rfl) (by kernel_rfl) (fun _ _ _ h => h) (Or.inl ⟨by rfl, ?_⟩) ⟨_, rfl⟩ ?_
    rotate_left
    · rintro wS ⟨yS, rfl⟩
      go_simp
      try (with_reducible rfl)
    try simp only [Act.put, List.setIfInBounds_toArray, List.set_cons_zero, List.set_cons_succ]
    refine wpAnyG_take (i := 2) (v := ?_) (by kernel_rfl) rfl (by kernel_rfl) (by kernel_rfl) (by kernel_rfl) (fun _ _ _ h => h) (Or.inl ⟨by rfl, ?_⟩) ⟨_, rfl⟩ ?_
    rotate_left
    · rintro wS ⟨yS, rfl⟩
      go_simp
      try (with_reducible rfl)
    try simp only [Act.put, List.setIfInBounds_toArray, List.set_cons_zero, List.set_cons_succ]
    refine wpAnyG_one (i := 3) (by kernel_rfl) (by decide) (wpOp_plain rfl rfl ?_)
    go_simp
    go_at_call 49
    refine (quiet_x (areDrawsR_is (A := A) HDR.out yr.v HM.out (HP.out yr))).mono ?_
    rintro e w5 ⟨rfl, ya, rfl⟩
    refine ⟨⟨_, rfl⟩, ?_⟩
    try simp only [Act.put, List.setIfInBounds_toArray, List.set_cons_zero, List.set_cons_succ]
    refine wpAnyG_take (i := 4) (v := ?_) (by kernel_rfl) rfl (by kernel_rfl) (by kernel_rfl) (by kernel_rfl) (fun _ _ _ h => h) (Or.inl ⟨by rfl, ?_⟩) ⟨_, rfl⟩ ?_
    rotate_left
    · rintro wS ⟨yS, rfl⟩
      go_simp
      try (with_reducible rfl)
    try simp only [Act.put, List.setIfInBounds_toArray, List.set_cons_zero, List.set_cons_succ]
    refine wpAnyG_take (i := 5) (v := ?_) (by kernel_rfl) rfl (by kernel_rfl) (by kernel_rfl) (by kernel_rfl) (fun _ _ _ h => h) (Or.inl ⟨by rfl, ?_⟩) ⟨_, rfl⟩ ?_
    rotate_left
    · rintro wS ⟨yS, rfl⟩
      go_simp
      try (with_reducible rfl)
    try simp only [Act.put, List.setIfInBounds_toArray, List.set_cons_zero, List.set_cons_succ]
    refine wpAnyG_take (i := 6) (v := ?_) (by kernel_rfl) rfl (by kernel_rfl) (by kernel_rfl) (by kernel_rfl) (fun _ _ _ h => h) (Or.inl ⟨by rfl, ?_⟩) ⟨_, rfl⟩ ?_
    rotate_left
    · rintro wS ⟨yS, rfl⟩
      go_simp
      try (with_reducible rfl)
    try simp only [Act.put, List.setIfInBounds_toArray, List.set_cons_zero, List.set_cons_succ]
    refine wpAnyG_one (i := 7) (by kernel_rfl) (by decide) (wpOp_want rfl (by rfl) ?_)
    go_simp
    go_at_call 47
    refine (quiet_x (isWellRW_is (A := A) HWL.out ya.v)).mono ?_
    rintro e w6 ⟨rfl, yb, rfl⟩
    refine ⟨⟨_, rfl⟩, ?_⟩
    try simp only [Act.put, List.setIfInBounds_toArray, List.set_cons_zero, List.set_cons_succ]
    refine wpAnyG_take (i := 8) (v := ?_) (by kernel_rfl) rfl (by kernel_rfl) (by kernel_rfl) (by kernel_rfl) (fun _ _ _ h => h) (Or.inl ⟨by rfl, ?_⟩) ⟨_, rfl⟩ ?_
    rotate_left
    · rintro wS ⟨yS, rfl⟩
      go_simp
      try (with_reducible rfl)
    try simp only [Act.put, List.setIfInBounds_toArray, List.set_cons_zero, List.set_cons_succ]
    refine wpAnyG_one (i := 9) (by kernel_rfl) (by decide) (wpOp_plain rfl rfl ?_)
    go_simp
    go_at_call 81
    refine (quiet_x (known_no T A b2 er yb.v HS.out (HI.out yb) HE.out H0.out)).mono ?_
    rintro e w7 ⟨rfl, yc, rfl⟩
    refine ⟨⟨_, rfl⟩, ?_⟩
    try simp only [Act.put, List.setIfInBounds_toArray, List.set_cons_zero, List.set_cons_succ]
    refine wpAnyG_take (i := 10) (v := ?_) (by kernel_rfl) rfl (by kernel_rfl) (by kernel_rfl) (by kernel_rfl) (fun _ _ _ h => h) (Or.inl ⟨by rfl, ?_⟩) ⟨_, rfl⟩ ?_
    rotate_left
    · rintro wS ⟨yS, rfl⟩
      go_simp
      try (with_reducible rfl)
    try simp only [Act.put, List.setIfInBounds_toArray, List.set_cons_zero, List.set_cons_succ]
    refine wpAnyG_take (i := 11) (v := ?_) (by kernel_rfl) rfl (by kernel_rfl) (by kernel_rfl) (by kernel_rfl) (fun _ _ _ h => h) (Or.inl ⟨by rfl, ?_⟩) ⟨_, rfl⟩ ?_
    rotate_left
    · rintro wS ⟨yS, rfl⟩
      go_simp
      try (with_reducible rfl)
    try simp only [Act.put, List.setIfInBounds_toArray, List.set_cons_zero, List.set_cons_succ]
    refine wpAnyG_take (i := 13) (v := ?_) (by kernel_rfl) rfl (by kernel_rfl) (by kernel_rfl) (by kernel_rfl) (fun _ _ _ h => h) (Or.inl ⟨by rfl, ?_⟩) ⟨_, rfl⟩ ?_
    rotate_left
    · rintro wS ⟨yS, rfl⟩
      go_simp
      try (with_reducible rfl)
    try simp only [Act.put, List.setIfInBounds_toArray, List.set_cons_zero, List.set_cons_succ]
    refine wpAnyG_take (i := 12) (v := ?_) (by kernel_rfl) rfl (by kernel_rfl) (by kernel_rfl) (by kernel_rfl) (fun _ _ _ h => h) (Or.inl ⟨by rfl, ?_⟩) ⟨_, rfl⟩ ?_
    rotate_left
    · rintro wS ⟨yS, rfl⟩
      go_simp
      try (with_reducible rfl)
    try simp only [Act.put, List.setIfInBounds_toArray, List.set_cons_zero, List.set_cons_succ]
    refine wpAnyG_done (by kernel_rfl) (by kernel_rfl) (wpOp_plain rfl rfl ?_)
    go_simp
    clear f0 f1 f2
    go_wp2
    exact bodyPost_ret (v := .tuple #[.int .i64 0, .int .i64 er]) (by simp [results, Tryd.f33, go_sem]) rfl ⟨rfl, HB.out yc⟩
theorem allB_snoc {l : List Nat} {f : Nat → Bool} {k : Nat} (h : k < l.length) : (l.take (k + 1)).all f = ((l.take k).all f && f (l.getD k 0)) := by
  rw [take_snoc h, List.all_append]; simp
theorem blamed_isB {T : Tn} {d : Nat → Int} {k : Int} {q : Nat} (hl : T.LL ≠ []) : T.LL.all (T.isB d k q) = T.blamed d k q := by
  unfold Tn.blamed Tn.isB
  cases h : decide ((q : Int) = k) with
  | true =>
    obtain ⟨x, l, e⟩ := List.exists_cons_of_ne_nil hl
    rw [e]; simp
  | false => simp
set_option maxRecDepth 100000 in
set_option maxHeartbeats 8000000 in
theorem blmR_ok (T : Tn) (A : Adr) (m dc : Nat) (d : Nat → Int) (dp : Option Addr) (k : Int) (w : World) (hs : T.sized) (hi : TnIn w w.heap.size T A) (hm : m ≤ maxLen) (hp : At w w.heap.size dp m 1 (fun q => .int .i64 (d q))) (he : T.wkE (T.isD m d k) = 0) :
    IntC 33 #[.agg #[.int .i64 T.wn, .slice A.wp T.nw A.wc, .slice A.fp T.nf A.fc], .slice dp m dc, .int .i64 k] (onI (blmF T d k m)) (if (blmF T d k m).isSome then 0 else 3) w := by
  unfold IntC
  obtain ⟨w1, x, hw1, hb1, hz1, F0, F1, F2, _⟩ := box_tn w T.wn A.wp A.fp T.nw A.wc T.nf A.fc
  have HB : Hid (∀ z : Ext w1, Below w.heap.size w z.v) := fun z => bT hb1 z.b
  have f0 := F0; have f1 := F1; have f2 := F2
  have HI : Hid (∀ z : Ext w1, TnIn z.v z.v.heap.size T A) := fun z => hi.bel (HB.out z)
  have HP : Hid (∀ z : Ext w1, At z.v z.v.heap.size dp m 1 (fun q => .int .i64 (d q))) := fun z => hp.bel (HB.out z)
  have HS := Lib.hid hs
  have HM := Lib.hid hm
  obtain ⟨hok, his, hl⟩ := wkE_zero he
  obtain ⟨hdr, hwl, b, rfl, hb⟩ := isD_nat his
  have HDR := Lib.hid hdr; have HWL := Lib.hid ((wellW_ok hok _).trans hwl)
  have HE := Lib.hid (show T.wkE true = 0 by rw [his] at he; exact he)
  have HLB := Lib.hid (show T.LL.length ≤ 6 from Nat.le_trans pick_len (T.ok_parts hok).2.1)
  have HMEM : Hid (∀ k, k < T.LL.length → T.LL.getD k 0 < T.nw) := fun k hk => (pick_mem.1 (getD_mem hk)).1
  obtain ⟨n, hn⟩ : ∃ n, T.LL.length = n := ⟨_, rfl⟩
  have HN := Lib.hid hn
  have hn0 : 0 < n := by rw [← hn]; exact List.length_pos_iff.2 hl
  have hn6 : n ≤ 6 := by rw [← hn]; exact HLB.out
  have hmw : (m : Int) = T.wn := (drw_parts hdr).1
  have HMW := Lib.hid hmw
  have hm4 : m ≤ 4 := by have := (T.ok_parts hok).1; omega
  have HFL : Hid (∀ (x i : Nat) (r : Bool), T.isB d (b : Int) i x = r → x < T.nw → i < m → ∀ z : Ext w1, Calls Tryd.prog 55 #[.agg #[.int .i64 T.wn, .slice A.wp T.nw A.wc, .slice A.fp T.nf A.fc], .int .i64 (x : Int), .slice dp m dc, .int .i64 (i : Int), .int .i64 (b : Int)] z.v fun e w' => e = .returned (.bool r) ∧ Below z.v.heap.size z.v w') := fun x i r hr hx him z => isBlamedR_is hr hok hx him hb hdr z.v (HI.out z) (HP.out z)
  have HBL : Hid (∀ q, T.LL.all (T.isB d (b : Int) q) = T.blamed d (b : Int) q) := fun q => blamed_isB hl
  obtain ⟨res, hres⟩ : ∃ r, blmF T d (b : Int) m = r := ⟨_, rfl⟩
  rw [hres]
  have HRES := Lib.hid hres
  obtain ⟨a1, ha1⟩ : ∃ v, onI res = v := ⟨_, rfl⟩
  obtain ⟨a2, ha2⟩ : ∃ v : Int, (if res.isSome then (0 : Int) else 3) = v := ⟨_, rfl⟩
  rw [ha1, ha2]
  have HA1 := Lib.hid ha1; have HA2 := Lib.hid ha2
  clear F0 F1 F2 hb1 hz1 hi hs hp hm his he hok hl hb hdr hwl hn hres ha1 ha2 hmw
  go_enter Tryd.func33, Tryd.ntmps33
  go_wp2
  refine wp_region_lastE 14 (by kernel_rfl) rfl (fun yr => ?_)
  clear hw1
  refine wpAnyG_take (i := 0) (v := ?_) (by kernel_rfl) rfl (by kernel_rfl) (by kernel_rfl) (by kernel_rfl) (fun _ _ _ h => h) (Or.inl ⟨by rfl, ?_⟩) ⟨_, rfl⟩ ?_
  rotate_left
  · rintro wS ⟨yS, rfl⟩
    go_simp
    try (with_reducible rfl)
  try simp only [Act.put, List.setIfInBounds_toArray, List.set_cons_zero, List.set_cons_succ]
  refine wpAnyG_take (i := 1) (v := ?_) (by kernel_rfl) rfl (by kernel_rfl) (by kernel_rfl) (by kernel_rfl) (fun _ _ _ h => h) (Or.inl ⟨by rfl, ?_⟩) ⟨_, rfl⟩ ?_
  rotate_left
  · rintro wS ⟨yS, rfl⟩
    go_simp
    try (with_reducible rfl)
  try simp only [Act.put, List.setIfInBounds_toArray, List.set_cons_zero, List.set_cons_succ]
  refine wpAnyG_take (i := 2) (v := ?_) (by kernel_rfl) rfl (by kernel_rfl) (by kernel_rfl) (by kernel_rfl) (fun _ _ _ h => h) (Or.inl ⟨by rfl, ?_⟩) ⟨_, rfl⟩ ?_
  rotate_left
  · rintro wS ⟨yS, rfl⟩
    go_simp
    try (with_reducible rfl)
  try simp only [Act.put, List.setIfInBounds_toArray, List.set_cons_zero, List.set_cons_succ]
  refine wpAnyG_one (i := 3) (by kernel_rfl) (by decide) (wpOp_plain rfl rfl ?_)
  go_simp
  go_at_call 49
  refine (quiet_x (areDrawsR_is (A := A) HDR.out yr.v HM.out (HP.out yr))).mono ?_
  rintro e w5 ⟨rfl, ya, rfl⟩
  refine ⟨⟨_, rfl⟩, ?_⟩
  try simp only [Act.put, List.setIfInBounds_toArray, List.set_cons_zero, List.set_cons_succ]
  refine wpAnyG_take (i := 4) (v := ?_) (by kernel_rfl) rfl (by kernel_rfl) (by kernel_rfl) (by kernel_rfl) (fun _ _ _ h => h) (Or.inl ⟨by rfl, ?_⟩) ⟨_, rfl⟩ ?_
  rotate_left
  · rintro wS ⟨yS, rfl⟩
    go_simp
    try (with_reducible rfl)
  try simp only [Act.put, List.setIfInBounds_toArray, List.set_cons_zero, List.set_cons_succ]
  refine wpAnyG_take (i := 5) (v := ?_) (by kernel_rfl) rfl (by kernel_rfl) (by kernel_rfl) (by kernel_rfl) (fun _ _ _ h => h) (Or.inl ⟨by rfl, ?_⟩) ⟨_, rfl⟩ ?_
  rotate_left
  · rintro wS ⟨yS, rfl⟩
    go_simp
    try (with_reducible rfl)
  try simp only [Act.put, List.setIfInBounds_toArray, List.set_cons_zero, List.set_cons_succ]
  refine wpAnyG_take (i := 6) (v := ?_) (by kernel_rfl) rfl (by kernel_rfl) (by kernel_rfl) (by kernel_rfl) (fun _ _ _ h => h) (Or.inl ⟨by rfl, ?_⟩) ⟨_, rfl⟩ ?_
  rotate_left
  · rintro wS ⟨yS, rfl⟩
    go_simp
    try (with_reducible rfl)
  try simp only [Act.put, List.setIfInBounds_toArray, List.set_cons_zero, List.set_cons_succ]
  refine wpAnyG_one (i := 7) (by kernel_rfl) (by decide) (wpOp_want rfl (by rfl) ?_)
  go_simp
  go_at_call 47
  refine (quiet_x (isWellRW_is (A := A) HWL.out ya.v)).mono ?_
  rintro e w6 ⟨rfl, yb, rfl⟩
  refine ⟨⟨_, rfl⟩, ?_⟩
  try simp only [Act.put, List.setIfInBounds_toArray, List.set_cons_zero, List.set_cons_succ]
  refine wpAnyG_take (i := 8) (v := ?_) (by kernel_rfl) rfl (by kernel_rfl) (by kernel_rfl) (by kernel_rfl) (fun _ _ _ h => h) (Or.inl ⟨by rfl, ?_⟩) ⟨_, rfl⟩ ?_
  rotate_left
  · rintro wS ⟨yS, rfl⟩
    go_simp
    try (with_reducible rfl)
  try simp only [Act.put, List.setIfInBounds_toArray, List.set_cons_zero, List.set_cons_succ]
  refine wpAnyG_one (i := 9) (by kernel_rfl) (by decide) (wpOp_plain rfl rfl ?_)
  go_simp
  go_at_call 81
  refine (known_ok T A true yb.v HS.out (HI.out yb) HE.out).mono ?_
  rintro e w8 ⟨p, c, rfl, hat, hb⟩
  obtain ⟨yc, rfl⟩ : ∃ z : Ext w1, w8 = z.v := ⟨⟨w8, bT yb.b hb⟩, rfl⟩
  have HAT := Lib.hid hat
  clear hat hb
  refine ⟨⟨_, rfl⟩, ?_⟩
  try simp only [Act.put, List.setIfInBounds_toArray, List.set_cons_zero, List.set_cons_succ]
  refine wpAnyG_take (i := 10) (v := ?_) (by kernel_rfl) rfl (by kernel_rfl) (by kernel_rfl) (by kernel_rfl) (fun _ _ _ h => h) (Or.inl ⟨by rfl, ?_⟩) ⟨_, rfl⟩ ?_
  rotate_left
  · rintro wS ⟨yS, rfl⟩
    go_simp
    try (with_reducible rfl)
  try simp only [Act.put, List.setIfInBounds_toArray, List.set_cons_zero, List.set_cons_succ]
  refine wpAnyG_take (i := 11) (v := ?_) (by kernel_rfl) rfl (by kernel_rfl) (by kernel_rfl) (by kernel_rfl) (fun _ _ _ h => h) (Or.inl ⟨by rfl, ?_⟩) ⟨_, rfl⟩ ?_
  rotate_left
  · rintro wS ⟨yS, rfl⟩
    go_simp
    try (with_reducible rfl)
  try simp only [Act.put, List.setIfInBounds_toArray, List.set_cons_zero, List.set_cons_succ]
  refine wpAnyG_take (i := 13) (v := ?_) (by kernel_rfl) rfl (by kernel_rfl) (by kernel_rfl) (by kernel_rfl) (fun _ _ _ h => h) (Or.inl ⟨by rfl, ?_⟩) ⟨_, rfl⟩ ?_
  rotate_left
  · rintro wS ⟨yS, rfl⟩
    go_simp
    try (with_reducible rfl)
  try simp only [Act.put, List.setIfInBounds_toArray, List.set_cons_zero, List.set_cons_succ]
  refine wpAnyG_take (i := 12) (v := ?_) (by kernel_rfl) rfl (by kernel_rfl) (by kernel_rfl) (by kernel_rfl) (fun _ _ _ h => h) (Or.inl ⟨by rfl, ?_⟩) ⟨_, rfl⟩ ?_
  rotate_left
  · rintro wS ⟨yS, rfl⟩
    go_simp
    try (with_reducible rfl)
  try simp only [Act.put, List.setIfInBounds_toArray, List.set_cons_zero, List.set_cons_succ]
  refine wpAnyG_done (by kernel_rfl) (by kernel_rfl) (wpOp_plain rfl rfl ?_)
  go_simp
  rw [HN.out] at HAT ⊢
  obtain ⟨b3, o3, hp3, -, -⟩ := HAT.out hn0
  subst hp3
  have g0 : ∀ z : Ext yc.v, z.v.cell? ⟨w.heap.size, 0, none⟩ = some (.int .i64 T.wn) := fun z => f0 ⟨z.v, bT yc.b z.b⟩
  have g1 : ∀ z : Ext yc.v, z.v.cell? ⟨w.heap.size, 1, none⟩ = some (.slice A.wp T.nw A.wc) := fun z => f1 ⟨z.v, bT yc.b z.b⟩
  have g2 : ∀ z : Ext yc.v, z.v.cell? ⟨w.heap.size, 2, none⟩ = some (.slice A.fp T.nf A.fc) := fun z => f2 ⟨z.v, bT yc.b z.b⟩
  clear f0 f1 f2
  go_wp2
  go_loopw [10] (fun v wr => ∃ q : Nat, v = .int .i64 (q : Int) ∧ q ≤ m ∧ blmF T d (b : Int) q = none ∧ ∃ y : Ext yc.v, wr = y.v) (fun v _ => m - (intOf v).toNat)
  case atStart => exact ⟨0, rfl, Nat.zero_le _, rfl, ⟨yc.v, Below.refl _ _⟩, rfl⟩
  case round =>
    obtain ⟨q, rfl, hq, hf, y, rfl⟩ := hrel
    have HF := Lib.hid hf
    have h0 := g0 y
    clear hf
    by_cases hlt : q < m
    · have j : decide ((q : Int) < T.wn) = true := by have := HMW.out; simp; omega
      go_wp2
      clear j h0
      go_loopw [11, 12] (fun a v wr => ∃ i : Nat, v = .int .i64 (i : Int) ∧ a = .bool ((T.LL.take i).all (T.isB d (b : Int) q)) ∧ i ≤ n ∧ ∃ z : Ext yc.v, wr = z.v) (fun _ v _ => n - (intOf v).toNat)
      case atStart => exact ⟨0, rfl, rfl, Nat.zero_le _, y, rfl⟩
      case round =>
        obtain ⟨i, rfl, rfl, hi, z, rfl⟩ := hrel
        by_cases hli : i < n
        · have j : decide ((i : Int) < (n : Int)) = true := by simp; omega
          have hlti : (i : Int) < (n : Int) := by omega
          obtain ⟨x, hx⟩ : ∃ x, T.LL.getD i 0 = x := ⟨_, rfl⟩
          have hxn : nats T.LL i = (x : Int) := by unfold nats; rw [hx]
          have e1 : ∀ z : Ext yc.v, z.v.cell? ⟨b3, o3 + i, none⟩ = some (.int .i64 (x : Int)) := fun z => by have := At.cell (k := i) (HAT.out.bel z.b) (by omega); rw [← hxn]; simpa using this
          obtain ⟨r, hr⟩ : ∃ r, T.isB d (b : Int) q x = r := ⟨_, rfl⟩
          have HFX := Lib.hid (HFL.out x q r hr (by rw [← hx]; exact HMEM.out i (by rw [HN.out]; exact hli)) hlt)
          have HTK := Lib.hid (show (T.LL.take (i + 1)).all (T.isB d (b : Int) q) = ((T.LL.take i).all (T.isB d (b : Int) q) && r) by rw [allB_snoc (by rw [HN.out]; exact hli), hx, hr])
          obtain ⟨al, hal⟩ : ∃ r, (T.LL.take i).all (T.isB d (b : Int) q) = r := ⟨_, rfl⟩
          rw [hal] at HTK ⊢
          clear hx hxn hr hal
          cases al with
          | true =>
            go_wp2
            refine quiet_e (by kernel_rfl) (by kernel_rfl) ?_
            repeat (first | go_big_quiet_step ((first | (go_at_call 55; exact quiet_x (HFX.out ⟨Ext.v _, bT yc.b (Ext.b _)⟩)))) | quiet_step ((first | (go_at_call 55; exact quiet_x (HFX.out ⟨Ext.v _, bT yc.b (Ext.b _)⟩)))))
            refine wpQuiet_nil ?_
            intro w6 hw6
            obtain ⟨z2, rfl⟩ := hw6
            go_wp2
            go_roundw
            case rel => exact ⟨i + 1, by go_num, by rw [HTK.out]; simp, hli, z2, rfl⟩
            case measure => first | (simp [intOf]; done) | (simp [intOf]; omega)
          | false =>
            go_wp2
            refine quiet_e (by kernel_rfl) (by kernel_rfl) ?_
            repeat (first | go_big_quiet_step (fail) | quiet_step (fail))
            refine wpQuiet_nil ?_
            intro w6 hw6
            obtain ⟨z2, rfl⟩ := hw6
            go_wp2
            go_roundw
            case rel => exact ⟨i + 1, by go_num, by rw [HTK.out]; simp, hli, z2, rfl⟩
            case measure => first | (simp [intOf]; done) | (simp [intOf]; omega)
        · have j : decide ((i : Int) < (n : Int)) = false := by simp; omega
          have HAL := Lib.hid (show (T.LL.take i).all (T.isB d (b : Int) q) = T.blamed d (b : Int) q by rw [show i = n by omega, ← HN.out, List.take_length]; exact HBL.out q)
          rw [HAL.out]
          obtain ⟨bl, hbl⟩ : ∃ r, T.blamed d (b : Int) q = r := ⟨_, rfl⟩
          rw [hbl]
          have HBZ := Lib.hid (HB.out ⟨z.v, bT yc.b z.b⟩)
          cases bl with
          | true =>
            have hh := blmF_hit HF.out hbl hlt
            rw [HRES.out] at hh
            have HH1 := Lib.hid (show (q : Int) = a1 by rw [← HA1.out, hh]; rfl)
            have HH2 := Lib.hid (show (0 : Int) = a2 by rw [← HA2.out, hh]; rfl)
            clear hbl hh
            go_wp2
            exact bodyPost_ret (v := .tuple #[.int .i64 (q : Int), .int .i64 0]) (by simp [results, Tryd.f33, go_sem]) rfl ⟨by rw [HH1.out, HH2.out], HBZ.out⟩
          | false =>
            have HNX := Lib.hid (blmF_miss HF.out hbl)
            clear hbl
            go_wp2
            go_roundw
            case rel => exact ⟨q + 1, by go_num, hlt, HNX.out, z, rfl⟩
            case measure => simp [intOf]; omega
    · have j : decide ((q : Int) < T.wn) = false := by have := HMW.out; simp; omega
      have hh : res = none := by rw [← HRES.out, show m = q by omega]; exact HF.out
      have HH1 := Lib.hid (show (0 : Int) = a1 by rw [← HA1.out, hh]; rfl)
      have HH2 := Lib.hid (show (3 : Int) = a2 by rw [← HA2.out, hh]; rfl)
      have HBZ := Lib.hid (HB.out ⟨y.v, bT yc.b y.b⟩)
      clear hh
      go_wp2
      exact bodyPost_ret (v := .tuple #[.int .i64 0, .int .i64 3]) (by simp [results, Tryd.f33, go_sem]) rfl ⟨by rw [HH1.out, HH2.out], HBZ.out⟩
end Go.Proofs.YtdjkbpenppdnlaaDoor
