/- Shafts: Rising, In, AreStops, CanRest, RingOf of the specification. -/
import Derived.Test.YtaaocomgmacjnabDoorC1

set_option linter.unusedSimpArgs false

set_option linter.unusedVariables false

namespace Go.Proofs.YtaaocomgmacjnabDoor

open Go.RowKit

set_option maxRecDepth 100000 in
set_option maxHeartbeats 4000000 in
theorem risingR_any (l : List Int) (pl : Option Addr) (cl : Nat) (n : Int) (w : World) (hl : l.length ≤ 1000000) (hi : ListIn w w.heap.size l pl) :
    Calls Tryd.prog 50 #[.slice pl l.length cl, .int .i64 1, .int .i64 n] w fun e w' => e = .returned (.bool (asc 0 n l)) ∧ Below w.heap.size w w' := by
  have HI := Lib.hid hi; clear hi
  go_enter Tryd.func50, Tryd.ntmps50
  go_wp2
  go_loopw [7] (fun i wr => ∃ (k : Nat) (v : Int), i = .int .i64 k ∧ k ≤ l.length ∧ asc 0 n l = asc v n (l.drop k) ∧ 0 ≤ v ∧ (∀ h : 0 < k, ∀ h2 : k - 1 < l.length, v = l[k - 1]) ∧ (k = 0 → v = 0) ∧ Below w.heap.size w wr) (fun i _ => l.length - (intOf i).toNat)
  case atStart => exact ⟨0, 0, rfl, Nat.zero_le _, rfl, Int.le_refl _, fun h => absurd h (by omega), fun _ => rfl, Below.refl _ _⟩
  case round =>
    obtain ⟨k, v, rfl, hk, hp, hv, hv1, hv0, hbb⟩ := hrel
    have HP := Lib.hid hp; have HBB := Lib.hid hbb; clear hp hbb
    by_cases hlt : k < l.length
    · obtain ⟨b, o, rfl, hc⟩ := HI.out.bel HBB.out (by omega)
      have e0 := hc.cell k hlt
      have j1 : decide ((k : Int) < (l.length : Int)) = true := by simp; omega
      have hlb := hc.lt
      have F0 : ∀ x : Ext wr, x.v.cell? ⟨b, o + k, none⟩ = some (.int .i64 l[k]) := fun x => (x.b.cell (p := ⟨b, o + k, none⟩) hlb).trans e0
      by_cases h1 : within l[k] 1 n = true
      · obtain ⟨i0, i1⟩ := within_iff.1 h1
        by_cases hk0 : k = 0
        · subst hk0
          have hv2 := hv0 rfl
          have d0 : decide ((0 : Int) < ((0 : Nat) : Int)) = false := by simp
          have d0' : decide ((0 : Int) < 0) = false := by simp
          have F0' : ∀ x : Ext wr, x.v.cell? ⟨b, o, none⟩ = some (.int .i64 l[0]) := F0
          have y0 : (0 : Int) < (l.length : Int) := by omega
          have HN := Lib.hid (asc_step HP.out hlt (by omega) i1)
          clear hc hv1 hv0
          go_wp2
          refine quiet_lit (by kernel_rfl) (by kernel_rfl) ?_
          repeat (first | go_big_quiet_step (((go_at_call 23; exact quiet_s (within1_any _ _ _ _)))) | quiet_step (((go_at_call 23; exact quiet_s (within1_any _ _ _ _)))))
          refine wpQuiet_nil ?_
          intro w2 hw
          obtain ⟨⟨w2, hw⟩, rfl⟩ := hw
          have HW2 := Lib.hid hw; clear hw F0
          go_wp2
          go_roundw
          case rel => exact ⟨1, _, by go_num, by omega, HN.out, by omega, fun _ _ => rfl, fun h => absurd h (by omega), bT HBB.out HW2.out⟩
          case measure => simp [intOf]; omega
        · obtain ⟨j, hj⟩ : ∃ j, k - 1 = j := ⟨_, rfl⟩
          have hj1 : j < l.length := by omega
          have hv2 := hv1 (by omega) (by omega)
          simp only [hj] at hv2
          have e1 := hc.cell j (by omega)
          have z1 : IntKind.i64.wrap ((k : Int) - 1) = (j : Int) := by rw [show (k : Int) - 1 = (j : Int) by omega]; exact IntWalk.i64_in _ (by omega)
          have F1 : ∀ x : Ext wr, x.v.cell? ⟨b, o + j, none⟩ = some (.int .i64 l[j]) := fun x => (x.b.cell (p := ⟨b, o + j, none⟩) hlb).trans e1
          have d0 : decide ((0 : Int) < (k : Int)) = true := decide_eq_true (by omega)
          have d0' : decide (0 < k) = true := decide_eq_true (by omega)
          have d0'' : 0 < k := by omega
          have y1 : (j : Int) < (l.length : Int) := by omega
          have y2 : (0 : Int) ≤ (j : Int) := by omega
          clear hc hv1 hv0
          by_cases h2 : l[k] ≤ l[j]
          · have d2 : decide (l[k] ≤ l[j]) = true := by simpa using h2
            have HR := Lib.hid (asc_lo HP.out hlt (by omega))
            clear h2
            go_wp2
            refine quiet_lit (by kernel_rfl) (by kernel_rfl) ?_
            repeat (first | go_big_quiet_step (((go_at_call 23; exact quiet_s (within1_any _ _ _ _)))) | quiet_step (((go_at_call 23; exact quiet_s (within1_any _ _ _ _)))))
            refine wpQuiet_nil ?_
            intro w2 hw
            obtain ⟨⟨w2, hw⟩, rfl⟩ := hw
            have HW2 := Lib.hid hw; clear hw F0 F1
            go_wp2
            go_ret
            exact ⟨ret_b HR.out.symm, bT HBB.out HW2.out⟩
          · have d2 : decide (l[k] ≤ l[j]) = false := by simpa using h2
            have HN := Lib.hid (asc_step HP.out hlt (by omega) i1)
            clear h2
            go_wp2
            refine quiet_lit (by kernel_rfl) (by kernel_rfl) ?_
            repeat (first | go_big_quiet_step (((go_at_call 23; exact quiet_s (within1_any _ _ _ _)))) | quiet_step (((go_at_call 23; exact quiet_s (within1_any _ _ _ _)))))
            refine wpQuiet_nil ?_
            intro w2 hw
            obtain ⟨⟨w2, hw⟩, rfl⟩ := hw
            have HW2 := Lib.hid hw; clear hw F0 F1
            go_wp2
            go_roundw
            case rel => exact ⟨k + 1, _, by go_num, by omega, HN.out, by omega, fun _ _ => rfl, fun h => absurd h (by omega), bT HBB.out HW2.out⟩
            case measure => simp [intOf]; omega
      · have h1' : within l[k] 1 n = false := by simpa using h1
        have HR := Lib.hid (show asc 0 n l = false from by
          by_cases hh : n < l[k]
          · exact asc_hi HP.out hlt hh
          · refine asc_lo HP.out hlt ?_
            by_cases h3 : 1 ≤ l[k]
            · rw [within_tt h3 (by omega)] at h1'; cases h1'
            · omega)
        clear hc hv1 hv0 h1
        go_wp2
        refine quiet_lit (by kernel_rfl) (by kernel_rfl) ?_
        repeat (first | go_big_quiet_step (((go_at_call 23; exact quiet_s (within1_any _ _ _ _)))) | quiet_step (((go_at_call 23; exact quiet_s (within1_any _ _ _ _)))))
        refine wpQuiet_nil ?_
        intro w2 hw
        obtain ⟨⟨w2, hw⟩, rfl⟩ := hw
        have HW2 := Lib.hid hw; clear hw F0
        go_wp2
        go_ret
        exact ⟨ret_b HR.out.symm, bT HBB.out HW2.out⟩
    · have j1 : decide ((k : Int) < (l.length : Int)) = false := by simp; omega
      have HR := Lib.hid (show true = asc 0 n l from by rw [HP.out, asc_done (by omega)])
      go_wp2
      go_ret
      exact ⟨ret_b HR.out, HBB.out⟩

set_option maxRecDepth 100000 in
set_option maxHeartbeats 4000000 in
theorem inR_any (l : List Int) (pl : Option Addr) (cl : Nat) (n : Int) (w : World) (hl : l.length ≤ 1000000) (hi : ListIn w w.heap.size l pl) :
    Calls Tryd.prog 24 #[.slice pl l.length cl, .int .i64 n] w fun e w' => e = .returned (.bool (decide (n ∈ l))) ∧ Below w.heap.size w w' := by
  have HI := Lib.hid hi; clear hi
  go_enter Tryd.func24, Tryd.ntmps24
  go_wp2
  go_loopw [5] (fun i wr => ∃ k : Nat, i = .int .i64 k ∧ k ≤ l.length ∧ n ∉ l.take k ∧ Below w.heap.size w wr) (fun i _ => l.length - (intOf i).toNat)
  case atStart => exact ⟨0, rfl, Nat.zero_le _, by simp, Below.refl _ _⟩
  case round =>
    obtain ⟨k, rfl, hk, hp, hbb⟩ := hrel
    have HP := Lib.hid hp; have HBB := Lib.hid hbb; clear hp hbb
    by_cases hlt : k < l.length
    · obtain ⟨b, o, rfl, hc⟩ := HI.out.bel HBB.out (by omega)
      have e0 := hc.cell k hlt
      have j1 : decide ((k : Int) < (l.length : Int)) = true := by simp; omega
      clear hc
      by_cases h1 : l[k] = n
      · have d1 : (l[k] == n) = true := by simpa using h1
        have HR := Lib.hid (show true = decide (n ∈ l) from by symm; exact decide_eq_true (h1 ▸ List.getElem_mem hlt))
        clear h1
        go_wp2
        go_ret
        exact ⟨ret_b HR.out, by first | exact HBB.out | exact bD HBB.out _⟩
      · have d1 : (l[k] == n) = false := by simpa using h1
        have HN := Lib.hid (show n ∉ l.take (k + 1) from by
          rw [List.take_add_one, List.getElem?_eq_getElem hlt, List.mem_append]
          rintro (h | h)
          · exact HP.out h
          · simp at h; exact h1 h.symm)
        clear h1
        go_wp2
        go_roundw
        case rel => exact ⟨k + 1, by go_num, hlt, HN.out, by first | exact HBB.out | exact bD HBB.out _⟩
        case measure => simp [intOf]; omega
    · have j1 : decide ((k : Int) < (l.length : Int)) = false := by simp; omega
      have HR := Lib.hid (show false = decide (n ∈ l) from by
        have := HP.out; rw [List.take_of_length_le (by omega)] at this; simp [this])
      go_wp2
      go_ret
      exact ⟨ret_b HR.out, HBB.out⟩

set_option maxRecDepth 100000 in
set_option maxHeartbeats 4000000 in
theorem areStopsR_any (S : Shaft) (p q : Option Addr) (c d : Nat) (l : List Int) (pl : Option Addr) (cl : Nat) (w : World) (hF : S.F.length ≤ 1000000) (hl : l.length ≤ 1000000) (hi : ListIn w w.heap.size l pl) :
    Calls Tryd.prog 22 #[.agg #[.slice q S.R.length d, .slice p S.F.length c, .int .i64 S.D, .int .i64 S.H, .int .i64 S.T], .slice pl l.length cl] w fun e w' => e = .returned (.bool (S.stops l)) ∧ Below w.heap.size w w' := by
  obtain ⟨w1, hw1, hb1, hz1, k0, k1, k2, k3, k4, k5⟩ := box_shaft w S p q c d
  have HR := Lib.hid (risingR_any l pl cl (S.F.length : Int) w1 hl (hi.bel hb1))
  have HB := Lib.hid hb1
  clear hi hb1 hz1
  go_enter Tryd.func22, Tryd.ntmps22
  go_wp2_with (go_at_call 50; refine HR.out.mono ?_; rintro e w2 ⟨rfl, hb2⟩; go_must (have HB2 := Lib.hid (bT HB.out hb2); clear hb2))
  go_ret
  exact ⟨rfl, HB2.out⟩

set_option maxRecDepth 100000 in
set_option maxHeartbeats 4000000 in
theorem canRestR_any (S : Shaft) (p q : Option Addr) (c d : Nat) (n : Int) (w : World) (hok : S.ok = true) (h0 : 0 < n) (h1 : n ≤ (S.F.length : Int)) (hi : ShaftIn w w.heap.size S p q) :
    Calls Tryd.prog 27 #[.agg #[.slice q S.R.length d, .slice p S.F.length c, .int .i64 S.D, .int .i64 S.H, .int .i64 S.T], .int .i64 n] w fun e w' => e = .returned (.bool (S.rests n)) ∧ Below w.heap.size w w' := by
  obtain ⟨⟨k, rfl, ek, hk⟩, r0, r1, m0, m1⟩ := ring_bd hok h0 h1
  obtain ⟨_, h12, _⟩ := S.ok_parts hok
  obtain ⟨w1, hw1, hb1, hz1, k0, k1, k2, k3, k4, k5⟩ := box_shaft w S p q c d
  have HRK := Lib.hid (rockR_any S p q c d k w1 hok hk (hi.bel hb1))
  have HB := Lib.hid hb1
  obtain ⟨x, hx'⟩ : ∃ x, S.rock (k : Int) = x := ⟨_, rfl⟩
  have HS := Lib.hid (show (x.e != -1) = S.rests ((k + 1 : Nat) : Int) from by unfold Shaft.rests; rw [ek, hx'])
  rw [hx'] at HRK
  have W0 : IntKind.i64.wrap (((k + 1 : Nat) : Int) - 1) = (k : Int) := by rw [ek]; exact IntWalk.i64_in _ (by omega)
  have fx : ∀ W, (Instr.field 55 (.agg #[.int .i64 x.h, .int .i64 x.p, .int .i64 x.s, .int .i64 x.e]) 3).run Tryd.prog W = .ok (.int .i64 x.e) W := fun _ => by kernel_rfl
  clear hi hok hx' hb1 hz1 r0 r1 m0 m1
  generalize ((k + 1 : Nat) : Int) = n at *
  go_enter Tryd.func27, Tryd.ntmps27
  go_wp2_with (go_at_call 41; refine HRK.out.mono ?_; rintro e w2 ⟨rfl, hb2⟩; go_must (have HB2 := Lib.hid (bT HB.out hb2); clear hb2))
  go_ret
  exact ⟨ret_b HS.out, HB2.out⟩

set_option maxRecDepth 100000 in
set_option maxHeartbeats 4000000 in
theorem ringR_any (S : Shaft) (p q : Option Addr) (c d : Nat) (n : Int) (w : World) (hok : S.ok = true) (h0 : 0 < n) (h1 : n ≤ (S.F.length : Int)) (hi : ShaftIn w w.heap.size S p q) :
    Calls Tryd.prog 28 #[.agg #[.slice q S.R.length d, .slice p S.F.length c, .int .i64 S.D, .int .i64 S.H, .int .i64 S.T], .int .i64 n] w fun e w' => e = .returned (.int .i64 (S.ringV n)) ∧ Below w.heap.size w w' := by
  obtain ⟨⟨k, rfl, ek, hk⟩, r0, r1, m0, m1⟩ := ring_bd hok h0 h1
  obtain ⟨_, h12, _⟩ := S.ok_parts hok
  obtain ⟨w1, hw1, hb1, hz1, k0, k1, k2, k3, k4, k5⟩ := box_shaft w S p q c d
  have hbk := hi.bel hb1
  have HRK := Lib.hid (fun (V : World) (hV : Below w1.heap.size w1 V) => rockR_any S p q c d k V hok hk (hbk.bel hV))
  have HB := Lib.hid hb1
  obtain ⟨x, hx'⟩ : ∃ x, S.rock (k : Int) = x := ⟨_, rfl⟩
  have HV : S.ringV ((k + 1 : Nat) : Int) = x.e + ((k + 1 : Nat) : Int) * S.H := by unfold Shaft.ringV; rw [ek, hx']
  rw [hx'] at HRK
  rw [HV] at r0 r1
  obtain ⟨m, hm⟩ : ∃ m, ((k + 1 : Nat) : Int) * S.H = m := ⟨_, rfl⟩
  rw [hm] at m0 m1 r0 r1 HV
  have W0 : IntKind.i64.wrap (((k + 1 : Nat) : Int) - 1) = (k : Int) := by rw [ek]; exact IntWalk.i64_in _ (by omega)
  have W1 : IntKind.i64.wrap (((k + 1 : Nat) : Int) * S.H) = m := by rw [hm]; exact IntWalk.i64_in _ (by omega)
  have W2 : IntKind.i64.wrap (x.e + m) = x.e + m := IntWalk.i64_in _ (by omega)
  have fx : ∀ W, (Instr.field 55 (.agg #[.int .i64 x.h, .int .i64 x.p, .int .i64 x.s, .int .i64 x.e]) 3).run Tryd.prog W = .ok (.int .i64 x.e) W := fun _ => by kernel_rfl
  have HR := Lib.hid HV.symm
  have F0 : ∀ x : Ext w1, x.v.cell? ⟨w.heap.size, 0, none⟩ = some (.slice q S.R.length d) := fun x => (x.b.cell (p := ⟨w.heap.size, 0, none⟩) k5).trans k0
  have F1 : ∀ x : Ext w1, x.v.cell? ⟨w.heap.size, 1, none⟩ = some (.slice p S.F.length c) := fun x => (x.b.cell (p := ⟨w.heap.size, 1, none⟩) k5).trans k1
  have F2 : ∀ x : Ext w1, x.v.cell? ⟨w.heap.size, 2, none⟩ = some (.int .i64 S.D) := fun x => (x.b.cell (p := ⟨w.heap.size, 2, none⟩) k5).trans k2
  have F3 : ∀ x : Ext w1, x.v.cell? ⟨w.heap.size, 3, none⟩ = some (.int .i64 S.H) := fun x => (x.b.cell (p := ⟨w.heap.size, 3, none⟩) k5).trans k3
  have F4 : ∀ x : Ext w1, x.v.cell? ⟨w.heap.size, 4, none⟩ = some (.int .i64 S.T) := fun x => (x.b.cell (p := ⟨w.heap.size, 4, none⟩) k5).trans k4
  clear hi hok hx' hb1 hz1 hbk hm HV
  generalize ((k + 1 : Nat) : Int) = n at *
  go_enter Tryd.func28, Tryd.ntmps28
  go_wp2
  refine quiet_lit (by kernel_rfl) (by kernel_rfl) ?_
  repeat (first | go_big_quiet_step (((go_at_call 41; exact quiet_x (HRK.out _ (by rename_i x; exact x.b))))) | quiet_step (((go_at_call 41; exact quiet_x (HRK.out _ (by rename_i x; exact x.b))))))
  refine wpQuiet_nil ?_
  intro w2 hw
  obtain ⟨⟨w2, hw⟩, rfl⟩ := hw
  have HW2 := Lib.hid hw; clear hw
  go_wp2
  go_ret
  exact ⟨ret_i HR.out, bT HB.out HW2.out⟩
end Go.Proofs.YtaaocomgmacjnabDoor
