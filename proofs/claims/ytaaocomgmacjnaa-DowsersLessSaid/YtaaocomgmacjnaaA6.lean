/- Books of dowsers: Check of the specification, for any book. -/
import Derived.Test.YtaaocomgmacjnaaA5

set_option linter.unusedSimpArgs false

set_option linter.unusedVariables false

namespace Go.Proofs.Ytaaocomgmacjnaa

open Go.RowKit

theorem ret_no {b : Bool} (h : false = b) : Ending.returned (.int .i64 40) = .returned (.int .i64 (vErr b)) := by rw [← h]; rfl
theorem ret_ok {b : Bool} (h : true = b) : Ending.returned (.int .i64 0) = .returned (.int .i64 (vErr b)) := by rw [← h]; rfl

set_option maxRecDepth 100000 in
set_option maxHeartbeats 4000000 in
theorem checkR_any (B : Book) (p q : Option Addr) (c d : Nat) (w : World) (hF : B.F.length ≤ 1000000) (hS : B.S.length ≤ 1000000) (hb : BookIn w w.heap.size B p q) :
    Calls Try.prog 39 #[.agg #[.int .i64 B.D, .slice p B.F.length c, .int .i64 B.N, .slice q B.S.length d, .int .i64 B.P]] w fun e w' => e = .returned (.int .i64 (vErr B.ok)) ∧ Below w.heap.size w w' := by
  obtain ⟨w1, hw1, hb1, hz1, x1⟩ := box_book w B p q c d
  have HT := Lib.hid (hb.bel hb1)
  have HB := Lib.hid hb1
  have HX := Lib.hid x1
  obtain ⟨k0, k1, k2, k3, k4, k5⟩ := x1
  clear hb hb1 hz1
  cases hD : within B.D 1 12 with
  | false =>
    have HR := Lib.hid (Book.ok_D hD)
    go_enter Try.func39, Try.ntmps39
    go_wp2_with (go_at_call 40; refine (within_any _ _ _ _).mono ?_; rintro e w' ⟨rfl, rfl⟩)
    go_ret
    exact ⟨ret_no HR.out, HB.out⟩
  | true =>
  by_cases hl : B.F.length ≤ 6
  case neg =>
    have dl : decide ((6 : Int) < (B.F.length : Int)) = true := by simp; omega
    have HR := Lib.hid (Book.ok_F hl)
    clear hl
    go_enter Try.func39, Try.ntmps39
    go_wp2_with (go_at_call 40; refine (within_any _ _ _ _).mono ?_; rintro e w' ⟨rfl, rfl⟩)
    go_ret
    exact ⟨ret_no HR.out, HB.out⟩
  case pos =>
  have dl : decide ((6 : Int) < (B.F.length : Int)) = false := by simp; omega
  cases hN : within B.N 0 4 with
  | false =>
    have HR := Lib.hid (Book.ok_N hN)
    go_enter Try.func39, Try.ntmps39
    go_wp2_with (go_at_call 40; refine (within_any _ _ _ _).mono ?_; rintro e w' ⟨rfl, rfl⟩)
    go_ret
    exact ⟨ret_no HR.out, HB.out⟩
  | true =>
  cases hP : within B.P 0 999 with
  | false =>
    have HR := Lib.hid (Book.ok_P hP)
    go_enter Try.func39, Try.ntmps39
    go_wp2_with (go_at_call 40; refine (within_any _ _ _ _).mono ?_; rintro e w' ⟨rfl, rfl⟩)
    go_ret
    exact ⟨ret_no HR.out, HB.out⟩
  | true =>
  obtain ⟨b0, b1⟩ := within_iff.1 hD
  obtain ⟨n0, n1⟩ := within_iff.1 hN
  go_enter Try.func39, Try.ntmps39
  go_wp2_with (go_at_call 40; refine (within_any _ _ _ _).mono ?_; rintro e w' ⟨rfl, rfl⟩)
  go_loopw [3] (fun i wr => ∃ k : Nat, i = .int .i64 k ∧ k ≤ B.F.length ∧ AllTo (okF B.D) B.F k ∧ Below w1.heap.size w1 wr) (fun i _ => B.F.length - (intOf i).toNat)
  case atStart => exact ⟨0, rfl, Nat.zero_le _, rfl, Below.refl _ _⟩
  case round =>
    obtain ⟨k, rfl, hk, hp, hbb⟩ := hrel
    have HP := Lib.hid hp; clear hp
    have HBB := Lib.hid hbb; clear hbb
    obtain ⟨g0, g1, g2, g3, g4, g5⟩ := HX.out.below HBB.out
    clear k0 k1 k2 k3 k4
    by_cases hlt : k < B.F.length
    · obtain ⟨b, o, rfl, hi⟩ := (HT.out.below HBB.out).f (by omega)
      have e0 := hi.cell k hlt
      have hlb : b < wr.heap.size := Nat.lt_of_lt_of_le hi.lt HBB.out.size
      clear hi
      have F0 : ∀ x : Ext wr, x.v.cell? ⟨w.heap.size, 0, none⟩ = some (.int .i64 B.D) := fun x => (x.b.cell (p := ⟨w.heap.size, 0, none⟩) g5).trans g0
      have F1 : ∀ x : Ext wr, x.v.cell? ⟨w.heap.size, 1, none⟩ = some (.slice (some ⟨b, o, none⟩) B.F.length c) := fun x => (x.b.cell (p := ⟨w.heap.size, 1, none⟩) g5).trans g1
      have F2 : ∀ x : Ext wr, x.v.cell? ⟨b, o + k, none⟩ = some (.int .i64 B.F[k]) := fun x => (x.b.cell (p := ⟨b, o + k, none⟩) hlb).trans e0
      cases hin : within B.F[k] 0 B.D with
      | true =>
        have HF := Lib.hid (show okF B.D B.F[k] = true from hin)
        go_wp2
        refine quiet_lit (by kernel_rfl) (by kernel_rfl) ?_
        repeat (first | go_big_quiet_step ((go_at_call 40; exact quiet_s (within_any _ _ _ _))) | quiet_step ((go_at_call 40; exact quiet_s (within_any _ _ _ _))))
        refine wpQuiet_nil ?_
        intro w6 hw6
        obtain ⟨⟨w6, hw6⟩, rfl⟩ := hw6
        have HW6 := Lib.hid hw6; clear hw6
        go_wp2
        go_roundw
        case rel => exact ⟨k + 1, by go_num, hlt, allTo_succ HP.out hlt HF.out, HBB.out.trans (HW6.out.mono HBB.out.size)⟩
        case measure => simp [intOf]; omega
      | false =>
        have HR := Lib.hid (Book.ok_f (allTo_bad hlt (show okF B.D B.F[k] = false from hin)))
        go_wp2
        refine quiet_lit (by kernel_rfl) (by kernel_rfl) ?_
        repeat (first | go_big_quiet_step ((go_at_call 40; exact quiet_s (within_any _ _ _ _))) | quiet_step ((go_at_call 40; exact quiet_s (within_any _ _ _ _))))
        refine wpQuiet_nil ?_
        intro w6 hw6
        obtain ⟨⟨w6, hw6⟩, rfl⟩ := hw6
        have HW6 := Lib.hid hw6; clear hw6
        go_wp2
        go_ret
        exact ⟨ret_no HR.out, bT HB.out (bT HBB.out HW6.out)⟩
    · have HA := Lib.hid (allTo_all HP.out (by omega)); clear HP
      go_wp2
      obtain ⟨wa, rfl⟩ : ∃ wa, wa = wr := ⟨_, rfl⟩
      clear hk hlt g0 g1 g2 g3 g4 g5
      go_loopw [4] (fun i wr => ∃ k : Nat, i = .int .i64 k ∧ k ≤ B.S.length ∧ SayTo B k ∧ Below w1.heap.size w1 wr) (fun i _ => B.S.length - (intOf i).toNat)
      case atStart => exact ⟨0, rfl, Nat.zero_le _, rfl, HBB.out⟩
      case round =>
        clear HBB
        obtain ⟨k, rfl, hk, hp, hbb⟩ := hrel
        have HP := Lib.hid hp; clear hp
        have HBB := Lib.hid hbb; clear hbb
        obtain ⟨g0, g1, g2, g3, g4, g5⟩ := HX.out.below HBB.out
        by_cases hlt : k < B.S.length
        · obtain ⟨b, o, rfl, hbl, hi⟩ := (HT.out.below HBB.out).s (by omega)
          have e0 := hi.c0 k hlt
          have e1 := hi.c1 k hlt
          have e2 := hi.c2 k hlt
          have e3 := hi.c3 k hlt
          have hlb : b < wr.heap.size := Nat.lt_of_lt_of_le hbl HBB.out.size
          obtain ⟨w5, hw5, hb5, hz5, q5, q6, q7, q8⟩ := box_say wr B.S[k].d B.S[k].p B.S[k].l B.S[k].h
          have q0 := (hb5.cell (p := ⟨w.heap.size, 0, none⟩) g5).trans g0
          have q1 := (hb5.cell (p := ⟨w.heap.size, 1, none⟩) g5).trans g1
          have q2 := (hb5.cell (p := ⟨w.heap.size, 2, none⟩) g5).trans g2
          have q3 := (hb5.cell (p := ⟨w.heap.size, 3, none⟩) g5).trans g3
          have q4 := (hb5.cell (p := ⟨w.heap.size, 4, none⟩) g5).trans g4
          have z1 : w.heap.size < w5.heap.size := Nat.lt_of_lt_of_le g5 hb5.size
          have z2 : wr.heap.size < w5.heap.size := by omega
          have z3 : b < w5.heap.size := Nat.lt_of_lt_of_le hlb hb5.size
          have HB5 := Lib.hid (bT HBB.out hb5)
          have HI := Lib.hid (hi.below (B := wr.heap.size) hb5 hlb)
          clear hb5 hz5 hi
          have F0 : ∀ x : Ext w5, x.v.cell? ⟨w.heap.size, 0, none⟩ = some (.int .i64 B.D) := fun x => (x.b.cell (p := ⟨w.heap.size, 0, none⟩) z1).trans q0
          have F1 : ∀ x : Ext w5, x.v.cell? ⟨w.heap.size, 1, none⟩ = some (.slice p B.F.length c) := fun x => (x.b.cell (p := ⟨w.heap.size, 1, none⟩) z1).trans q1
          have F2 : ∀ x : Ext w5, x.v.cell? ⟨w.heap.size, 2, none⟩ = some (.int .i64 B.N) := fun x => (x.b.cell (p := ⟨w.heap.size, 2, none⟩) z1).trans q2
          have F3 : ∀ x : Ext w5, x.v.cell? ⟨w.heap.size, 3, none⟩ = some (.slice (some ⟨b, o, none⟩) B.S.length d) := fun x => (x.b.cell (p := ⟨w.heap.size, 3, none⟩) z1).trans q3
          have F4 : ∀ x : Ext w5, x.v.cell? ⟨w.heap.size, 4, none⟩ = some (.int .i64 B.P) := fun x => (x.b.cell (p := ⟨w.heap.size, 4, none⟩) z1).trans q4
          have F5 : ∀ x : Ext w5, x.v.cell? ⟨wr.heap.size, 0, none⟩ = some (.int .i64 B.S[k].d) := fun x => (x.b.cell (p := ⟨wr.heap.size, 0, none⟩) z2).trans q5
          have F6 : ∀ x : Ext w5, x.v.cell? ⟨wr.heap.size, 1, none⟩ = some (.int .i64 B.S[k].p) := fun x => (x.b.cell (p := ⟨wr.heap.size, 1, none⟩) z2).trans q6
          have F7 : ∀ x : Ext w5, x.v.cell? ⟨wr.heap.size, 2, none⟩ = some (.int .i64 B.S[k].l) := fun x => (x.b.cell (p := ⟨wr.heap.size, 2, none⟩) z2).trans q7
          have F8 : ∀ x : Ext w5, x.v.cell? ⟨wr.heap.size, 3, none⟩ = some (.int .i64 B.S[k].h) := fun x => (x.b.cell (p := ⟨wr.heap.size, 3, none⟩) z2).trans q8
          clear q0 q1 q2 q3 q4 q5 q6 q7 q8
          cases hs1 : within B.S[k].d 0 (B.N - 1) with
          | false =>
            have HR := Lib.hid (Book.ok_s (say_bad hlt (sayAt_one hlt (by simp [sayOk, hs1]))))
            clear HI
            go_wp2
            clear e0 e1 e2 e3 g0 g1 g2 g3 g4
            refine quiet_lit (by kernel_rfl) (by kernel_rfl) ?_
            repeat (first | go_big_quiet_step (first | (go_at_call 24; exact quiet_x (isDowserR_any _ _ _ _ _ _ _ (by omega) (by omega))) | (go_at_call 65; exact quiet_x (isPlaceR_any _ _ _ _ _ _ _ _ _ hF)) | (go_at_call 40; exact quiet_s (within_any _ _ _ _))) | quiet_step (first | (go_at_call 24; exact quiet_x (isDowserR_any _ _ _ _ _ _ _ (by omega) (by omega))) | (go_at_call 65; exact quiet_x (isPlaceR_any _ _ _ _ _ _ _ _ _ hF)) | (go_at_call 40; exact quiet_s (within_any _ _ _ _))))
            refine wpQuiet_nil ?_
            intro w6 hw6
            obtain ⟨⟨w6, hw6⟩, rfl⟩ := hw6
            have HW6 := Lib.hid hw6; clear hw6
            go_wp2
            go_ret
            exact ⟨ret_no HR.out, bT HB.out (bT HB5.out HW6.out)⟩
          | true =>
          cases hs2 : within B.S[k].p 0 ((B.F.length : Int) - 1) with
          | false =>
            have HR := Lib.hid (Book.ok_s (say_bad hlt (sayAt_one hlt (by simp [sayOk, hs1, hs2]))))
            clear HI
            go_wp2
            clear e0 e1 e2 e3 g0 g1 g2 g3 g4
            refine quiet_lit (by kernel_rfl) (by kernel_rfl) ?_
            repeat (first | go_big_quiet_step (first | (go_at_call 24; exact quiet_x (isDowserR_any _ _ _ _ _ _ _ (by omega) (by omega))) | (go_at_call 65; exact quiet_x (isPlaceR_any _ _ _ _ _ _ _ _ _ hF)) | (go_at_call 40; exact quiet_s (within_any _ _ _ _))) | quiet_step (first | (go_at_call 24; exact quiet_x (isDowserR_any _ _ _ _ _ _ _ (by omega) (by omega))) | (go_at_call 65; exact quiet_x (isPlaceR_any _ _ _ _ _ _ _ _ _ hF)) | (go_at_call 40; exact quiet_s (within_any _ _ _ _))))
            refine wpQuiet_nil ?_
            intro w6 hw6
            obtain ⟨⟨w6, hw6⟩, rfl⟩ := hw6
            have HW6 := Lib.hid hw6; clear hw6
            go_wp2
            go_ret
            exact ⟨ret_no HR.out, bT HB.out (bT HB5.out HW6.out)⟩
          | true =>
          cases hs3 : within B.S[k].l 1 B.D with
          | false =>
            have HR := Lib.hid (Book.ok_s (say_bad hlt (sayAt_one hlt (by simp [sayOk, hs1, hs2, hs3]))))
            clear HI
            go_wp2
            clear e0 e1 e2 e3 g0 g1 g2 g3 g4
            refine quiet_lit (by kernel_rfl) (by kernel_rfl) ?_
            repeat (first | go_big_quiet_step (first | (go_at_call 24; exact quiet_x (isDowserR_any _ _ _ _ _ _ _ (by omega) (by omega))) | (go_at_call 65; exact quiet_x (isPlaceR_any _ _ _ _ _ _ _ _ _ hF)) | (go_at_call 40; exact quiet_s (within_any _ _ _ _))) | quiet_step (first | (go_at_call 24; exact quiet_x (isDowserR_any _ _ _ _ _ _ _ (by omega) (by omega))) | (go_at_call 65; exact quiet_x (isPlaceR_any _ _ _ _ _ _ _ _ _ hF)) | (go_at_call 40; exact quiet_s (within_any _ _ _ _))))
            refine wpQuiet_nil ?_
            intro w6 hw6
            obtain ⟨⟨w6, hw6⟩, rfl⟩ := hw6
            have HW6 := Lib.hid hw6; clear hw6
            go_wp2
            go_ret
            exact ⟨ret_no HR.out, bT HB.out (bT HB5.out HW6.out)⟩
          | true =>
          cases hs4 : within B.S[k].h B.S[k].l B.D with
          | false =>
            have HR := Lib.hid (Book.ok_s (say_bad hlt (sayAt_one hlt (by simp [sayOk, hs1, hs2, hs3, hs4]))))
            clear HI
            go_wp2
            clear e0 e1 e2 e3 g0 g1 g2 g3 g4
            refine quiet_lit (by kernel_rfl) (by kernel_rfl) ?_
            repeat (first | go_big_quiet_step (first | (go_at_call 24; exact quiet_x (isDowserR_any _ _ _ _ _ _ _ (by omega) (by omega))) | (go_at_call 65; exact quiet_x (isPlaceR_any _ _ _ _ _ _ _ _ _ hF)) | (go_at_call 40; exact quiet_s (within_any _ _ _ _))) | quiet_step (first | (go_at_call 24; exact quiet_x (isDowserR_any _ _ _ _ _ _ _ (by omega) (by omega))) | (go_at_call 65; exact quiet_x (isPlaceR_any _ _ _ _ _ _ _ _ _ hF)) | (go_at_call 40; exact quiet_s (within_any _ _ _ _))))
            refine wpQuiet_nil ?_
            intro w6 hw6
            obtain ⟨⟨w6, hw6⟩, rfl⟩ := hw6
            have HW6 := Lib.hid hw6; clear hw6
            go_wp2
            go_ret
            exact ⟨ret_no HR.out, bT HB.out (bT HB5.out HW6.out)⟩
          | true =>
          have hs : sayOk B.D B.N B.F.length B.S[k] = true := by simp [sayOk, hs1, hs2, hs3, hs4]
          rcases Nat.eq_zero_or_pos k with hk0 | hpos
          · have dk : decide ((0 : Int) < (k : Int)) = false := by simp; omega
            have dkn : decide (0 < k) = false := by simp; omega
            have HN : Hid (SayTo B (k + 1)) := sayTo_succ HP.out (by subst hk0; exact sayAt_zero hlt hs)
            clear HI hk0 hs
            go_wp2
            clear e0 e1 e2 e3 g0 g1 g2 g3 g4
            refine quiet_lit (by kernel_rfl) (by kernel_rfl) ?_
            repeat (first | go_big_quiet_step (first | (go_at_call 24; exact quiet_x (isDowserR_any _ _ _ _ _ _ _ (by omega) (by omega))) | (go_at_call 65; exact quiet_x (isPlaceR_any _ _ _ _ _ _ _ _ _ hF)) | (go_at_call 40; exact quiet_s (within_any _ _ _ _))) | quiet_step (first | (go_at_call 24; exact quiet_x (isDowserR_any _ _ _ _ _ _ _ (by omega) (by omega))) | (go_at_call 65; exact quiet_x (isPlaceR_any _ _ _ _ _ _ _ _ _ hF)) | (go_at_call 40; exact quiet_s (within_any _ _ _ _))))
            refine wpQuiet_nil ?_
            intro w6 hw6
            obtain ⟨⟨w6, hw6⟩, rfl⟩ := hw6
            have HW6 := Lib.hid hw6; clear hw6
            go_wp2
            go_roundw
            case rel => exact ⟨k + 1, by go_num, hlt, HN.out, bT HB5.out HW6.out⟩
            case measure => simp [intOf]; omega
          · have dk : decide ((0 : Int) < (k : Int)) = true := by simp; omega
            have dkn : decide (0 < k) = true := by simp; omega
            obtain ⟨j, hkj⟩ : ∃ j, k = j + 1 := ⟨k - 1, by omega⟩
            have hjl : j < B.S.length := by omega
            have q9 := HI.out.c0 j hjl
            have q10 := HI.out.c1 j hjl
            have q11 := HI.out.c2 j hjl
            have q12 := HI.out.c3 j hjl
            have F9 : ∀ x : Ext w5, x.v.cell? ⟨b, o + j * 4, none⟩ = some (.int .i64 B.S[j].d) := fun x => (x.b.cell (p := ⟨b, o + j * 4, none⟩) z3).trans q9
            have F10 : ∀ x : Ext w5, x.v.cell? ⟨b, o + j * 4 + 1, none⟩ = some (.int .i64 B.S[j].p) := fun x => (x.b.cell (p := ⟨b, o + j * 4 + 1, none⟩) z3).trans q10
            have F11 : ∀ x : Ext w5, x.v.cell? ⟨b, o + j * 4 + 2, none⟩ = some (.int .i64 B.S[j].l) := fun x => (x.b.cell (p := ⟨b, o + j * 4 + 2, none⟩) z3).trans q11
            have F12 : ∀ x : Ext w5, x.v.cell? ⟨b, o + j * 4 + 3, none⟩ = some (.int .i64 B.S[j].h) := fun x => (x.b.cell (p := ⟨b, o + j * 4 + 3, none⟩) z3).trans q12
            clear q9 q10 q11 q12
            have hk1 : IntKind.i64.wrap ((k : Int) - 1) = (j : Int) := by rw [IntWalk.i64_in _ (by omega)]; omega
            have hat : sayAt B k = ahead B.S[j] B.S[k] := by subst hkj; exact sayAt_succ hlt hs
            have HK := Lib.hid hkj
            clear HI hkj hs
            cases ha : ahead B.S[j] B.S[k] with
            | false =>
              rw [ha] at hat
              have HR := Lib.hid (Book.ok_s (say_bad hlt hat)); clear hat
              go_wp2
              clear e0 e1 e2 e3 g0 g1 g2 g3 g4
              refine quiet_lit (by kernel_rfl) (by kernel_rfl) ?_
              repeat (first | go_big_quiet_step (first | (go_at_call 24; exact quiet_x (isDowserR_any _ _ _ _ _ _ _ (by omega) (by omega))) | (go_at_call 65; exact quiet_x (isPlaceR_any _ _ _ _ _ _ _ _ _ hF)) | (go_at_call 40; exact quiet_s (within_any _ _ _ _)) | (go_at_call 64; exact quiet_x (beforeR_any B.S[j] B.S[k] _))) | quiet_step (first | (go_at_call 24; exact quiet_x (isDowserR_any _ _ _ _ _ _ _ (by omega) (by omega))) | (go_at_call 65; exact quiet_x (isPlaceR_any _ _ _ _ _ _ _ _ _ hF)) | (go_at_call 40; exact quiet_s (within_any _ _ _ _)) | (go_at_call 64; exact quiet_x (beforeR_any B.S[j] B.S[k] _))))
              refine wpQuiet_nil ?_
              intro w6 hw6
              obtain ⟨⟨w6, hw6⟩, rfl⟩ := hw6
              have HW6 := Lib.hid hw6; clear hw6
              clear hk1
              go_wp2
              go_ret
              exact ⟨ret_no HR.out, bT HB.out (bT HB5.out HW6.out)⟩
            | true =>
              rw [ha] at hat
              have HN : Hid (SayTo B (k + 1)) := sayTo_succ HP.out hat; clear hat
              go_wp2
              clear e0 e1 e2 e3 g0 g1 g2 g3 g4
              refine quiet_lit (by kernel_rfl) (by kernel_rfl) ?_
              repeat (first | go_big_quiet_step (first | (go_at_call 24; exact quiet_x (isDowserR_any _ _ _ _ _ _ _ (by omega) (by omega))) | (go_at_call 65; exact quiet_x (isPlaceR_any _ _ _ _ _ _ _ _ _ hF)) | (go_at_call 40; exact quiet_s (within_any _ _ _ _)) | (go_at_call 64; exact quiet_x (beforeR_any B.S[j] B.S[k] _))) | quiet_step (first | (go_at_call 24; exact quiet_x (isDowserR_any _ _ _ _ _ _ _ (by omega) (by omega))) | (go_at_call 65; exact quiet_x (isPlaceR_any _ _ _ _ _ _ _ _ _ hF)) | (go_at_call 40; exact quiet_s (within_any _ _ _ _)) | (go_at_call 64; exact quiet_x (beforeR_any B.S[j] B.S[k] _))))
              refine wpQuiet_nil ?_
              intro w6 hw6
              obtain ⟨⟨w6, hw6⟩, rfl⟩ := hw6
              have HW6 := Lib.hid hw6; clear hw6
              clear hk1
              go_wp2
              go_roundw
              case rel => exact ⟨k + 1, by go_num, hlt, HN.out, bT HB5.out HW6.out⟩
              case measure => simp [intOf]; omega
        · have HR := Lib.hid (Book.ok_t hD hl hN hP HA.out (by have := HP.out; unfold SayTo at this; rwa [show k = B.S.length by omega] at this))
          go_wp2
          go_ret
          exact ⟨ret_ok HR.out, bT HB.out HBB.out⟩
end Go.Proofs.Ytaaocomgmacjnaa
