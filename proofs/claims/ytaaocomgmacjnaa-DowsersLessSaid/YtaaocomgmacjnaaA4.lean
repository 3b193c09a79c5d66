/- Books of dowsers: valid, of the program, and Check, for any book. -/
import Derived.Test.YtaaocomgmacjnaaA3

set_option linter.unusedSimpArgs false

set_option linter.unusedVariables false

namespace Go.Proofs.Ytaaocomgmacjnaa

open Go.RowKit

def okF (D : Int) (x : Int) : Bool := within x 0 D
theorem Book.ok_D {B : Book} (h : within B.D 1 12 = false) : false = B.ok := by simp [Book.ok, h]
theorem Book.ok_F {B : Book} (h : ¬ B.F.length ≤ 6) : false = B.ok := by simp [Book.ok, h]
theorem Book.ok_N {B : Book} (h : within B.N 0 4 = false) : false = B.ok := by simp [Book.ok, h]
theorem Book.ok_P {B : Book} (h : within B.P 0 999 = false) : false = B.ok := by simp [Book.ok, h]
theorem Book.ok_f {B : Book} (h : B.F.all (okF B.D) = false) : false = B.ok := by unfold okF at h; simp [Book.ok, h]
theorem Book.ok_s {B : Book} (h : (List.range B.S.length).all (sayAt B) = false) : false = B.ok := by simp [Book.ok, h]
theorem Book.ok_t {B : Book} (h0 : within B.D 1 12 = true) (h1 : B.F.length ≤ 6) (h2 : within B.N 0 4 = true) (h3 : within B.P 0 999 = true) (h4 : B.F.all (okF B.D) = true) (h5 : (List.range B.S.length).all (sayAt B) = true) : true = B.ok := by
  unfold okF at h4; simp [Book.ok, h0, h1, h2, h3, h4, h5]
/-- as far as number k all sayings are as they must be -/
def SayTo (B : Book) (k : Nat) : Prop := (List.range k).all (sayAt B) = true
theorem sayTo_succ {B : Book} {k : Nat} (h : SayTo B k) (e : sayAt B k = true) : SayTo B (k + 1) := by
  unfold SayTo at *
  rw [List.range_succ, List.all_append, h]; simpa using e
theorem say_bad {B : Book} {k : Nat} (hk : k < B.S.length) (e : sayAt B k = false) : (List.range B.S.length).all (sayAt B) = false := by
  rw [List.all_eq_false]; exact ⟨k, by simpa using hk, by simp [e]⟩
theorem sayAt_one {B : Book} {k : Nat} (hk : k < B.S.length) (e : sayOk B.D B.N B.F.length B.S[k] = false) : sayAt B k = false := by
  unfold sayAt; rw [List.getElem?_eq_getElem hk]; simp [e]
theorem sayAt_zero {B : Book} (hk : 0 < B.S.length) (e : sayOk B.D B.N B.F.length B.S[0] = true) : sayAt B 0 = true := by
  unfold sayAt; rw [List.getElem?_eq_getElem hk]; simp [e]
theorem sayAt_succ {B : Book} {j : Nat} (hk : j + 1 < B.S.length) (e : sayOk B.D B.N B.F.length B.S[j + 1] = true) : sayAt B (j + 1) = ahead (B.S[j]'(by omega)) B.S[j + 1] := by
  unfold sayAt; rw [List.getElem?_eq_getElem hk]
  simp only [e, Bool.true_and]
  rw [List.getElem?_eq_getElem (by omega)]

set_option maxRecDepth 100000 in
set_option maxHeartbeats 2000000 in
theorem valid_any (B : Book) (p q : Option Addr) (c d : Nat) (w : World) (hF : B.F.length ≤ 1000000) (hS : B.S.length ≤ 1000000) (hb : BookIn w w.heap.size B p q) :
    Calls Try.prog 44 #[.agg #[.int .i64 B.D, .slice p B.F.length c, .int .i64 B.N, .slice q B.S.length d, .int .i64 B.P]] w fun e w' => e = .returned (.bool B.ok) ∧ Below w.heap.size w w' := by
  obtain ⟨w1, hw1, hb1, hz1, x1⟩ := box_book w B p q c d
  have HT := Lib.hid (hb.bel hb1)
  have HB := Lib.hid hb1
  have HX := Lib.hid x1
  obtain ⟨k0, k1, k2, k3, k4, k5⟩ := x1
  clear hb hb1 hz1
  cases hD : within B.D 1 12 with
  | false =>
    have HR := Lib.hid (Book.ok_D hD)
    go_enter Try.func44, Try.ntmps44
    go_wp2_with (go_at_call 68; refine (isFrom_any _ _ _ _).mono ?_; rintro e w' ⟨rfl, rfl⟩)
    go_ret
    exact ⟨ret_b HR.out, HB.out⟩
  | true =>
  by_cases hl : B.F.length ≤ 6
  case neg =>
    have dl : decide ((6 : Int) < (B.F.length : Int)) = true := by simp; omega
    have HR := Lib.hid (Book.ok_F hl); clear hl
    go_enter Try.func44, Try.ntmps44
    go_wp2_with (go_at_call 68; refine (isFrom_any _ _ _ _).mono ?_; rintro e w' ⟨rfl, rfl⟩)
    go_ret
    exact ⟨ret_b HR.out, HB.out⟩
  case pos =>
  have dl : decide ((6 : Int) < (B.F.length : Int)) = false := by simp; omega
  cases hN : within B.N 0 4 with
  | false =>
    have HR := Lib.hid (Book.ok_N hN)
    go_enter Try.func44, Try.ntmps44
    go_wp2_with (go_at_call 68; refine (isFrom_any _ _ _ _).mono ?_; rintro e w' ⟨rfl, rfl⟩)
    go_ret
    exact ⟨ret_b HR.out, HB.out⟩
  | true =>
  cases hP : within B.P 0 999 with
  | false =>
    have HR := Lib.hid (Book.ok_P hP)
    go_enter Try.func44, Try.ntmps44
    go_wp2_with (go_at_call 68; refine (isFrom_any _ _ _ _).mono ?_; rintro e w' ⟨rfl, rfl⟩)
    go_ret
    exact ⟨ret_b HR.out, HB.out⟩
  | true =>
  obtain ⟨b0, b1⟩ := within_iff.1 hD
  obtain ⟨n0, n1⟩ := within_iff.1 hN
  go_enter Try.func44, Try.ntmps44
  go_wp2_with (go_at_call 68; refine (isFrom_any _ _ _ _).mono ?_; rintro e w' ⟨rfl, rfl⟩)
  go_loopw [30] (fun i wr => ∃ k : Nat, i = .int .i64 k ∧ k ≤ B.F.length ∧ AllTo (okF B.D) B.F k ∧ Below w1.heap.size w1 wr) (fun i _ => B.F.length - (intOf i).toNat)
  case atStart => exact ⟨0, rfl, Nat.zero_le _, rfl, Below.refl _ _⟩
  case round =>
    obtain ⟨k, rfl, hk, hp, hbb⟩ := hrel
    have HP := Lib.hid hp; clear hp
    have HBB := Lib.hid hbb; clear hbb
    obtain ⟨g0, g1, g2, g3, g4, g5⟩ := HX.out.below HBB.out
    clear k0 k1 k2 k3 k4
    by_cases hlt : k < B.F.length
    · obtain ⟨b, o, rfl, hi⟩ := (HT.out.below HBB.out).f (by omega)
      have e0 := hi.cell k hlt
      have hlb : b < wr.heap.size := Nat.lt_of_lt_of_le hi.lt HBB.out.size
      clear hi
      by_cases h0 : B.F[k] = 0
      · have d0 : (B.F[k] != 0) = false := by simp [h0]
        have f : okF B.D B.F[k] = true := by rw [h0]; exact within_tt (by omega) (by omega)
        have HF := Lib.hid f; clear f h0
        go_wp2_with (go_at_call 68; refine (isFrom_any _ _ _ _).mono ?_; rintro e w' ⟨rfl, rfl⟩)
        go_roundw
        case rel => exact ⟨k + 1, by go_num, hlt, allTo_succ HP.out hlt HF.out, HBB.out⟩
        case measure => simp [intOf]; omega
      · have d0 : (B.F[k] != 0) = true := by simp [h0]
        cases hin : within B.F[k] 1 B.D with
        | true =>
          have f : okF B.D B.F[k] = true := by obtain ⟨a1, a2⟩ := within_iff.1 hin; exact within_tt (by omega) a2
          have HF := Lib.hid f; clear f h0
          go_wp2_with (go_at_call 68; refine (isFrom_any _ _ _ _).mono ?_; rintro e w' ⟨rfl, rfl⟩)
          go_roundw
          case rel => exact ⟨k + 1, by go_num, hlt, allTo_succ HP.out hlt HF.out, HBB.out⟩
          case measure => simp [intOf]; omega
        | false =>
          have f : okF B.D B.F[k] = false := by
            cases e : okF B.D B.F[k] with
            | false => rfl
            | true =>
              obtain ⟨a1, a2⟩ := within_iff.1 e
              rw [within_tt (by omega) a2] at hin; cases hin
          have HR := Lib.hid (Book.ok_f (allTo_bad hlt f)); clear f h0
          go_wp2_with (go_at_call 68; refine (isFrom_any _ _ _ _).mono ?_; rintro e w' ⟨rfl, rfl⟩)
          go_ret
          exact ⟨ret_b HR.out, bT HB.out HBB.out⟩
    · have HA := Lib.hid (allTo_all HP.out (by omega)); clear HP
      go_wp2
      obtain ⟨wa, rfl⟩ : ∃ wa, wa = wr := ⟨_, rfl⟩
      clear hk hlt g0 g1 g2 g3 g4 g5
      go_loopw [47] (fun i wr => ∃ k : Nat, i = .int .i64 k ∧ k ≤ B.S.length ∧ SayTo B k ∧ Below w1.heap.size w1 wr) (fun i _ => B.S.length - (intOf i).toNat)
      case atStart => exact ⟨0, rfl, Nat.zero_le _, rfl, HBB.out⟩
      case round =>
        clear HBB
        obtain ⟨k, rfl, hk, hp, hbb⟩ := hrel
        have HP := Lib.hid hp; clear hp
        have HBB := Lib.hid hbb; clear hbb
        obtain ⟨g0, g1, g2, g3, g4, g5⟩ := HX.out.below HBB.out
        by_cases hlt : k < B.S.length
        · obtain ⟨b, o, rfl, hbl, hi⟩ := (HT.out.below HBB.out).s (by omega)
          have e0 := hi.c0 k hlt
          have e1 := hi.c1 k hlt
          have e2 := hi.c2 k hlt
          have e3 := hi.c3 k hlt
          have hlb : b < wr.heap.size := Nat.lt_of_lt_of_le hbl HBB.out.size
          obtain ⟨w5, hw5, hb5, hz5, q5, q6, q7, q8⟩ := box_say wr B.S[k].d B.S[k].p B.S[k].l B.S[k].h
          have q0 := (hb5.cell (p := ⟨w.heap.size, 0, none⟩) g5).trans g0
          have q1 := (hb5.cell (p := ⟨w.heap.size, 1, none⟩) g5).trans g1
          have q2 := (hb5.cell (p := ⟨w.heap.size, 2, none⟩) g5).trans g2
          have q3 := (hb5.cell (p := ⟨w.heap.size, 3, none⟩) g5).trans g3
          have q4 := (hb5.cell (p := ⟨w.heap.size, 4, none⟩) g5).trans g4
          have z1 : w.heap.size < w5.heap.size := Nat.lt_of_lt_of_le g5 hb5.size
          have z2 : wr.heap.size < w5.heap.size := by omega
          have z3 : b < w5.heap.size := Nat.lt_of_lt_of_le hlb hb5.size
          have HB5 := Lib.hid (bT HBB.out hb5)
          have HI := Lib.hid (hi.below (B := wr.heap.size) hb5 hlb)
          clear hb5 hz5 hi
          have F0 : ∀ x : Ext w5, x.v.cell? ⟨w.heap.size, 0, none⟩ = some (.int .i64 B.D) := fun x => (x.b.cell (p := ⟨w.heap.size, 0, none⟩) z1).trans q0
          have F1 : ∀ x : Ext w5, x.v.cell? ⟨w.heap.size, 1, none⟩ = some (.slice p B.F.length c) := fun x => (x.b.cell (p := ⟨w.heap.size, 1, none⟩) z1).trans q1
          have F2 : ∀ x : Ext w5, x.v.cell? ⟨w.heap.size, 2, none⟩ = some (.int .i64 B.N) := fun x => (x.b.cell (p := ⟨w.heap.size, 2, none⟩) z1).trans q2
          have F3 : ∀ x : Ext w5, x.v.cell? ⟨w.heap.size, 3, none⟩ = some (.slice (some ⟨b, o, none⟩) B.S.length d) := fun x => (x.b.cell (p := ⟨w.heap.size, 3, none⟩) z1).trans q3
          have F4 : ∀ x : Ext w5, x.v.cell? ⟨w.heap.size, 4, none⟩ = some (.int .i64 B.P) := fun x => (x.b.cell (p := ⟨w.heap.size, 4, none⟩) z1).trans q4
          have F5 : ∀ x : Ext w5, x.v.cell? ⟨wr.heap.size, 0, none⟩ = some (.int .i64 B.S[k].d) := fun x => (x.b.cell (p := ⟨wr.heap.size, 0, none⟩) z2).trans q5
          have F6 : ∀ x : Ext w5, x.v.cell? ⟨wr.heap.size, 1, none⟩ = some (.int .i64 B.S[k].p) := fun x => (x.b.cell (p := ⟨wr.heap.size, 1, none⟩) z2).trans q6
          have F7 : ∀ x : Ext w5, x.v.cell? ⟨wr.heap.size, 2, none⟩ = some (.int .i64 B.S[k].l) := fun x => (x.b.cell (p := ⟨wr.heap.size, 2, none⟩) z2).trans q7
          have F8 : ∀ x : Ext w5, x.v.cell? ⟨wr.heap.size, 3, none⟩ = some (.int .i64 B.S[k].h) := fun x => (x.b.cell (p := ⟨wr.heap.size, 3, none⟩) z2).trans q8
          clear q0 q1 q2 q3 q4 q5 q6 q7 q8
          cases hs : sayOk B.D B.N B.F.length B.S[k] with
          | false =>
            have HR := Lib.hid (Book.ok_s (say_bad hlt (sayAt_one hlt hs)))
            clear HI
            go_wp2
            clear e0 e1 e2 e3 g0 g1 g2 g3 g4
            refine quiet_lit (by kernel_rfl) (by kernel_rfl) ?_
            repeat (first | go_big_quiet_step ((go_at_call 69; exact quiet_x (canBeSaid_any B p (some ⟨b, o, none⟩) c d B.S[k] _ hF (by omega) (by omega)))) | quiet_step ((go_at_call 69; exact quiet_x (canBeSaid_any B p (some ⟨b, o, none⟩) c d B.S[k] _ hF (by omega) (by omega)))))
            refine wpQuiet_nil ?_
            intro w6 hw6
            obtain ⟨⟨w6, hb6⟩, rfl⟩ := hw6
            have HB6 := Lib.hid hb6; clear hb6
            go_wp2
            go_ret
            exact ⟨ret_b HR.out, bT HB.out (bT HB5.out HB6.out)⟩
          | true =>
          rcases Nat.eq_zero_or_pos k with hk0 | hpos
          · have dk : decide ((0 : Int) < (k : Int)) = false := by simp; omega
            have dkn : decide (0 < k) = false := by simp; omega
            have HN : Hid (SayTo B (k + 1)) := sayTo_succ HP.out (by subst hk0; exact sayAt_zero hlt hs)
            clear HI hk0
            go_wp2
            clear e0 e1 e2 e3 g0 g1 g2 g3 g4
            refine quiet_lit (by kernel_rfl) (by kernel_rfl) ?_
            repeat (first | go_big_quiet_step ((go_at_call 69; exact quiet_x (canBeSaid_any B p (some ⟨b, o, none⟩) c d B.S[k] _ hF (by omega) (by omega)))) | quiet_step ((go_at_call 69; exact quiet_x (canBeSaid_any B p (some ⟨b, o, none⟩) c d B.S[k] _ hF (by omega) (by omega)))))
            refine wpQuiet_nil ?_
            intro w6 hw6
            obtain ⟨⟨w6, hb6⟩, rfl⟩ := hw6
            have HB6 := Lib.hid hb6; clear hb6
            go_wp2
            go_roundw
            case rel => exact ⟨k + 1, by go_num, hlt, HN.out, bT HB5.out HB6.out⟩
            case measure => simp [intOf]; omega
          · have dk : decide ((0 : Int) < (k : Int)) = true := by simp; omega
            have dkn : decide (0 < k) = true := by simp; omega
            obtain ⟨j, hkj⟩ : ∃ j, k = j + 1 := ⟨k - 1, by omega⟩
            have hjl : j < B.S.length := by omega
            have q9 := HI.out.c0 j hjl
            have q10 := HI.out.c1 j hjl
            have q11 := HI.out.c2 j hjl
            have q12 := HI.out.c3 j hjl
            have F9 : ∀ x : Ext w5, x.v.cell? ⟨b, o + j * 4, none⟩ = some (.int .i64 B.S[j].d) := fun x => (x.b.cell (p := ⟨b, o + j * 4, none⟩) z3).trans q9
            have F10 : ∀ x : Ext w5, x.v.cell? ⟨b, o + j * 4 + 1, none⟩ = some (.int .i64 B.S[j].p) := fun x => (x.b.cell (p := ⟨b, o + j * 4 + 1, none⟩) z3).trans q10
            have F11 : ∀ x : Ext w5, x.v.cell? ⟨b, o + j * 4 + 2, none⟩ = some (.int .i64 B.S[j].l) := fun x => (x.b.cell (p := ⟨b, o + j * 4 + 2, none⟩) z3).trans q11
            have F12 : ∀ x : Ext w5, x.v.cell? ⟨b, o + j * 4 + 3, none⟩ = some (.int .i64 B.S[j].h) := fun x => (x.b.cell (p := ⟨b, o + j * 4 + 3, none⟩) z3).trans q12
            clear q9 q10 q11 q12
            have hk1 : IntKind.i64.wrap ((k : Int) - 1) = (j : Int) := by rw [IntWalk.i64_in _ (by omega)]; omega
            have hat : sayAt B k = ahead B.S[j] B.S[k] := by subst hkj; exact sayAt_succ hlt hs
            have HK := Lib.hid hkj
            clear HI hkj
            cases ha : ahead B.S[j] B.S[k] with
            | false =>
              rw [ha] at hat
              have HR := Lib.hid (Book.ok_s (say_bad hlt hat)); clear hat
              go_wp2
              clear e0 e1 e2 e3 g0 g1 g2 g3 g4
              refine quiet_lit (by kernel_rfl) (by kernel_rfl) ?_
              repeat (first | go_big_quiet_step (first | (go_at_call 69; exact quiet_x (canBeSaid_any B p (some ⟨b, o, none⟩) c d B.S[k] _ hF (by omega) (by omega))) | (go_at_call 70; exact quiet_x (isAhead_any B.S[j] B.S[k] _))) | quiet_step (first | (go_at_call 69; exact quiet_x (canBeSaid_any B p (some ⟨b, o, none⟩) c d B.S[k] _ hF (by omega) (by omega))) | (go_at_call 70; exact quiet_x (isAhead_any B.S[j] B.S[k] _))))
              refine wpQuiet_nil ?_
              intro w6 hw6
              obtain ⟨⟨w6, hb6⟩, rfl⟩ := hw6
              have HB6 := Lib.hid hb6; clear hb6
              clear hk1
              go_wp2
              go_ret
              exact ⟨ret_b HR.out, bT HB.out (bT HB5.out HB6.out)⟩
            | true =>
              rw [ha] at hat
              have HN : Hid (SayTo B (k + 1)) := sayTo_succ HP.out hat; clear hat
              go_wp2
              clear e0 e1 e2 e3 g0 g1 g2 g3 g4
              refine quiet_lit (by kernel_rfl) (by kernel_rfl) ?_
              repeat (first | go_big_quiet_step (first | (go_at_call 69; exact quiet_x (canBeSaid_any B p (some ⟨b, o, none⟩) c d B.S[k] _ hF (by omega) (by omega))) | (go_at_call 70; exact quiet_x (isAhead_any B.S[j] B.S[k] _))) | quiet_step (first | (go_at_call 69; exact quiet_x (canBeSaid_any B p (some ⟨b, o, none⟩) c d B.S[k] _ hF (by omega) (by omega))) | (go_at_call 70; exact quiet_x (isAhead_any B.S[j] B.S[k] _))))
              refine wpQuiet_nil ?_
              intro w6 hw6
              obtain ⟨⟨w6, hb6⟩, rfl⟩ := hw6
              have HB6 := Lib.hid hb6; clear hb6
              clear hk1
              go_wp2
              go_roundw
              case rel => exact ⟨k + 1, by go_num, hlt, HN.out, bT HB5.out HB6.out⟩
              case measure => simp [intOf]; omega
        · have HR := Lib.hid (Book.ok_t hD hl hN hP HA.out (by have := HP.out; unfold SayTo at this; rwa [show k = B.S.length by omega] at this))
          go_wp2
          go_ret
          exact ⟨ret_b HR.out, bT HB.out HBB.out⟩
end Go.Proofs.Ytaaocomgmacjnaa
