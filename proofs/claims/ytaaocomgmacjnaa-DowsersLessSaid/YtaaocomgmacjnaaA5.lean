/- Books of dowsers: Check, Hit and Points of the program, for any book and saying. -/
import Derived.Test.YtaaocomgmacjnaaA4

set_option linter.unusedSimpArgs false

set_option linter.unusedVariables false

namespace Go.Proofs.Ytaaocomgmacjnaa

open Go.RowKit

def vErr (b : Bool) : Int := if b then 0 else 40
theorem vErr_t : vErr true = 0 := rfl
theorem vErr_f : vErr false = 40 := rfl
theorem Book.ok_parts {B : Book} (h : B.ok = true) : (1 ≤ B.D ∧ B.D ≤ 12) ∧ B.F.length ≤ 6 ∧ (0 ≤ B.N ∧ B.N ≤ 4) ∧ (0 ≤ B.P ∧ B.P ≤ 999) ∧ (∀ k, (hk : k < B.F.length) → 0 ≤ B.F[k] ∧ B.F[k] ≤ B.D) ∧ ∀ k, k < B.S.length → sayAt B k = true := by
  simp only [Book.ok, Bool.and_eq_true, decide_eq_true_eq] at h
  obtain ⟨h0, h1, h2, h3, h4, h5⟩ := h
  refine ⟨within_iff.1 h0, h1, within_iff.1 h2, within_iff.1 h3, fun k hk => within_iff.1 (all_at h4 hk), fun k hk => ?_⟩
  exact List.all_eq_true.1 h5 k (by simpa using hk)
theorem Book.ok_say {B : Book} (h : B.ok = true) {k : Nat} (hk : k < B.S.length) : (0 ≤ B.S[k].d ∧ B.S[k].d ≤ B.N - 1) ∧ (0 ≤ B.S[k].p ∧ B.S[k].p < B.F.length) ∧ (1 ≤ B.S[k].l ∧ B.S[k].l ≤ B.D) ∧ (B.S[k].l ≤ B.S[k].h ∧ B.S[k].h ≤ B.D) := by
  have h1 := B.ok_parts h |>.2.2.2.2.2 k hk
  have h2 : sayOk B.D B.N B.F.length B.S[k] = true := by
    cases e : sayOk B.D B.N B.F.length B.S[k] with
    | true => rfl
    | false => rw [sayAt_one hk e] at h1; cases h1
  simp only [sayOk, Bool.and_eq_true] at h2
  obtain ⟨a, b, c, d⟩ := h2
  have := within_iff.1 b
  exact ⟨within_iff.1 a, by omega, within_iff.1 c, within_iff.1 d⟩
def Book.say (B : Book) (n : Int) : Say := (B.S[n.toNat]?).getD ⟨0, 0, 0, 0⟩
theorem Book.say_eq {B : Book} {k : Nat} (hk : k < B.S.length) : B.say (k : Int) = B.S[k] := by simp [Book.say, List.getElem?_eq_getElem hk]
def Book.isSay (B : Book) (n : Int) : Bool := within n 0 ((B.S.length : Int) - 1)
/-- the error of a book that is asked for a saying -/
def askErr (ok is : Bool) : Int := if ok then (if is then 0 else 1) else 40
def hitV (B : Book) (n : Int) : Int := if B.ok && B.isSay n then hit B (B.say n) else 0
def ptsOpen (B : Book) (n : Int) : Bool := B.at (B.say n).p == 0
def ptsErr (B : Book) (n : Int) : Int := if B.ok && B.isSay n && ptsOpen B n then 3 else askErr B.ok (B.isSay n)
def ptsV (B : Book) (n : Int) : Int := if B.ok && B.isSay n && !ptsOpen B n then pts B (B.say n) (B.at (B.say n).p) else 0
theorem ret_2 {a b c d : Int} (h : a = c) (k : b = d) : Ending.returned (.tuple #[.int .i64 a, .int .i64 b]) = .returned (.tuple #[.int .i64 c, .int .i64 d]) := by rw [h, k]

set_option maxRecDepth 100000 in
set_option maxHeartbeats 2000000 in
/-- Hit of the program -/
theorem hitP_any (B : Book) (p q : Option Addr) (c d : Nat) (n : Int) (w : World) (hF : B.F.length ≤ 1000000) (hS : B.S.length ≤ 1000000) (hb : BookIn w w.heap.size B p q) :
    Calls Try.prog 13 #[.agg #[.int .i64 B.D, .slice p B.F.length c, .int .i64 B.N, .slice q B.S.length d, .int .i64 B.P], .int .i64 n] w fun e w' => e = .returned (.tuple #[.int .i64 (hitV B n), .int .i64 (askErr B.ok (B.isSay n))]) ∧ Below w.heap.size w w' := by
  obtain ⟨w1, hw1, hb1, hz1, x1⟩ := box_book w B p q c d
  have hbk := hb.bel hb1
  have hv := valid_any B p q c d w1 hF hS hbk
  obtain ⟨k0, k1, k2, k3, k4, k5⟩ := x1
  have HB := Lib.hid hb1
  have HBK := Lib.hid hbk
  clear hb hb1 hz1 hbk
  rcases Bool.eq_false_or_eq_true B.ok with hok | hok
  case inr =>
    rw [hok] at hv
    have HV := Lib.hid hv; clear hv
    have R1 := Lib.hid (show (0 : Int) = hitV B n from by simp [hitV, ptsV, hok])
    have R2 := Lib.hid (show (40 : Int) = askErr B.ok (B.isSay n) from by simp [askErr, ptsErr, hok])
    clear hok
    go_enter Try.func13, Try.ntmps13
    go_wp2_with (go_at_call 44; refine HV.out.mono ?_; rintro e w2 ⟨rfl, hb2⟩)
    go_ret2
    exact ⟨ret_2 R1.out R2.out, bT HB.out hb2⟩
  case inl =>
  rw [hok] at hv
  have HV := Lib.hid hv; clear hv
  have HOK := Lib.hid hok
  cases hin : within n 0 ((B.S.length : Int) - 1) with
  | false =>
    have R1 := Lib.hid (show (0 : Int) = hitV B n from by simp [hitV, ptsV, hok, Book.isSay, hin])
    have R2 := Lib.hid (show (1 : Int) = askErr B.ok (B.isSay n) from by simp [askErr, ptsErr, hok, Book.isSay, hin])
    clear hok
    go_enter Try.func13, Try.ntmps13
    go_wp2_with (go_at_call 44; refine HV.out.mono ?_; rintro e w2 ⟨rfl, hb2⟩; have c0 := (hb2.cell (p := ⟨w.heap.size, 0, none⟩) k5).trans k0; have c1 := (hb2.cell (p := ⟨w.heap.size, 1, none⟩) k5).trans k1; have c2 := (hb2.cell (p := ⟨w.heap.size, 2, none⟩) k5).trans k2; have c3 := (hb2.cell (p := ⟨w.heap.size, 3, none⟩) k5).trans k3; have c4 := (hb2.cell (p := ⟨w.heap.size, 4, none⟩) k5).trans k4; have z1 := Nat.lt_of_lt_of_le k5 hb2.size)
    go_wp2_with (go_at_call 45; refine (isSaying_any _ _ _ _ _ _ _ _ _ hS).mono ?_; rintro e w3 ⟨rfl, hb3⟩)
    go_ret2
    exact ⟨ret_2 R1.out R2.out, bT HB.out (bT hb2 hb3)⟩
  | true =>
  obtain ⟨i0, i1⟩ := within_iff.1 hin
  obtain ⟨k, rfl⟩ : ∃ k : Nat, n = (k : Int) := ⟨n.toNat, by omega⟩
  have hk : k < B.S.length := by omega
  have hsay := Lib.hid (B.say_eq hk)
  obtain ⟨⟨s0, s1⟩, ⟨s2, s3⟩, ⟨s4, s5⟩, s6, s7⟩ := B.ok_say hok hk
  obtain ⟨⟨t0, t1⟩, t2, ⟨t3, t4⟩, _, _, _⟩ := B.ok_parts hok
  obtain ⟨b, o, rfl, hbl, hi⟩ := HBK.out.s (by omega)
  have e0 := hi.c0 k hk
  have e1 := hi.c1 k hk
  have e2 := hi.c2 k hk
  have e3 := hi.c3 k hk
  clear hi
  have R1 := Lib.hid (show hit B B.S[k] = hitV B k from by rw [← hsay.out]; simp [hitV, hok, Book.isSay, hin])
  have R2 := Lib.hid (show (0 : Int) = askErr B.ok (B.isSay k) from by simp [askErr, hok, Book.isSay, hin])
  have jb : decide ((k : Int) < (B.S.length : Int)) = true := by simp; omega
  clear hok hsay
  · go_enter Try.func13, Try.ntmps13
    go_wp2_with (go_at_call 44; refine HV.out.mono ?_; rintro e w2 ⟨rfl, hb2⟩; have c0 := (hb2.cell (p := ⟨w.heap.size, 0, none⟩) k5).trans k0; have c1 := (hb2.cell (p := ⟨w.heap.size, 1, none⟩) k5).trans k1; have c2 := (hb2.cell (p := ⟨w.heap.size, 2, none⟩) k5).trans k2; have c3 := (hb2.cell (p := ⟨w.heap.size, 3, none⟩) k5).trans k3; have c4 := (hb2.cell (p := ⟨w.heap.size, 4, none⟩) k5).trans k4; have f0 := (hb2.cell (p := ⟨b, o + k * 4, none⟩) hbl).trans e0; have f1 := (hb2.cell (p := ⟨b, o + k * 4 + 1, none⟩) hbl).trans e1; have f2 := (hb2.cell (p := ⟨b, o + k * 4 + 2, none⟩) hbl).trans e2; have f3 := (hb2.cell (p := ⟨b, o + k * 4 + 3, none⟩) hbl).trans e3; have z1 := Nat.lt_of_lt_of_le k5 hb2.size; have z2 := Nat.lt_of_lt_of_le hbl hb2.size)
    go_wp2_with (go_at_call 45; refine (isSaying_any _ _ _ _ _ _ _ _ _ hS).mono ?_; rintro e w3 ⟨rfl, hb3⟩; have m0 := (hb3.cell (p := ⟨w.heap.size, 0, none⟩) z1).trans c0; have m1 := (hb3.cell (p := ⟨w.heap.size, 1, none⟩) z1).trans c1; have m2 := (hb3.cell (p := ⟨w.heap.size, 2, none⟩) z1).trans c2; have m3 := (hb3.cell (p := ⟨w.heap.size, 3, none⟩) z1).trans c3; have m4 := (hb3.cell (p := ⟨w.heap.size, 4, none⟩) z1).trans c4; have g0 := (hb3.cell (p := ⟨b, o + k * 4, none⟩) z2).trans f0; have g1 := (hb3.cell (p := ⟨b, o + k * 4 + 1, none⟩) z2).trans f1; have g2 := (hb3.cell (p := ⟨b, o + k * 4 + 2, none⟩) z2).trans f2; have g3 := (hb3.cell (p := ⟨b, o + k * 4 + 3, none⟩) z2).trans f3; have y1 := Nat.lt_of_lt_of_le z1 hb3.size; have y2 := Nat.lt_of_lt_of_le z2 hb3.size)
    have HBK3 := Lib.hid ((HBK.out.bel hb2).bel hb3)
    have HB3 := Lib.hid (bT HB.out (bT hb2 hb3))
    clear hb2 hb3
    have F0 : ∀ x : Ext w3, x.v.cell? ⟨w.heap.size, 0, none⟩ = some (.int .i64 B.D) := fun x => (x.b.cell (p := ⟨w.heap.size, 0, none⟩) y1).trans m0
    have F1 : ∀ x : Ext w3, x.v.cell? ⟨w.heap.size, 1, none⟩ = some (.slice p B.F.length c) := fun x => (x.b.cell (p := ⟨w.heap.size, 1, none⟩) y1).trans m1
    have F2 : ∀ x : Ext w3, x.v.cell? ⟨w.heap.size, 2, none⟩ = some (.int .i64 B.N) := fun x => (x.b.cell (p := ⟨w.heap.size, 2, none⟩) y1).trans m2
    have F3 : ∀ x : Ext w3, x.v.cell? ⟨w.heap.size, 3, none⟩ = some (.slice (some ⟨b, o, none⟩) B.S.length d) := fun x => (x.b.cell (p := ⟨w.heap.size, 3, none⟩) y1).trans m3
    have F4 : ∀ x : Ext w3, x.v.cell? ⟨w.heap.size, 4, none⟩ = some (.int .i64 B.P) := fun x => (x.b.cell (p := ⟨w.heap.size, 4, none⟩) y1).trans m4
    have F5 : ∀ x : Ext w3, x.v.cell? ⟨b, o + k * 4, none⟩ = some (.int .i64 B.S[k].d) := fun x => (x.b.cell (p := ⟨b, o + k * 4, none⟩) y2).trans g0
    have F6 : ∀ x : Ext w3, x.v.cell? ⟨b, o + k * 4 + 1, none⟩ = some (.int .i64 B.S[k].p) := fun x => (x.b.cell (p := ⟨b, o + k * 4 + 1, none⟩) y2).trans g1
    have F7 : ∀ x : Ext w3, x.v.cell? ⟨b, o + k * 4 + 2, none⟩ = some (.int .i64 B.S[k].l) := fun x => (x.b.cell (p := ⟨b, o + k * 4 + 2, none⟩) y2).trans g2
    have F8 : ∀ x : Ext w3, x.v.cell? ⟨b, o + k * 4 + 3, none⟩ = some (.int .i64 B.S[k].h) := fun x => (x.b.cell (p := ⟨b, o + k * 4 + 3, none⟩) y2).trans g3
    refine quiet_lit (by kernel_rfl) (by kernel_rfl) ?_
    repeat (first | go_big_quiet_step ((go_at_call 46; exact quiet_x (hitOf_any B p (some ⟨b, o, none⟩) c d B.S[k] _ (HBK3.out.bel (by rename_i x; exact x.b)) hF s2 s3))) | quiet_step ((go_at_call 46; exact quiet_x (hitOf_any B p (some ⟨b, o, none⟩) c d B.S[k] _ (HBK3.out.bel (by rename_i x; exact x.b)) hF s2 s3))))
    refine wpQuiet_nil ?_
    intro w6 hw6
    obtain ⟨⟨w6, hw6⟩, rfl⟩ := hw6
    have HW6 := Lib.hid hw6; clear hw6
    go_wp2
    go_ret2
    exact ⟨ret_2 R1.out R2.out, bT HB3.out HW6.out⟩

set_option maxRecDepth 100000 in
set_option maxHeartbeats 4000000 in
/-- Points of the program -/
theorem pointsP_any (B : Book) (p q : Option Addr) (c d : Nat) (n : Int) (w : World) (hF : B.F.length ≤ 1000000) (hS : B.S.length ≤ 1000000) (hb : BookIn w w.heap.size B p q) :
    Calls Try.prog 14 #[.agg #[.int .i64 B.D, .slice p B.F.length c, .int .i64 B.N, .slice q B.S.length d, .int .i64 B.P], .int .i64 n] w fun e w' => e = .returned (.tuple #[.int .i64 (ptsV B n), .int .i64 (ptsErr B n)]) ∧ Below w.heap.size w w' := by
  obtain ⟨w1, hw1, hb1, hz1, x1⟩ := box_book w B p q c d
  have hbk := hb.bel hb1
  have hv := valid_any B p q c d w1 hF hS hbk
  obtain ⟨k0, k1, k2, k3, k4, k5⟩ := x1
  have HB := Lib.hid hb1
  have HBK := Lib.hid hbk
  clear hb hb1 hz1 hbk
  rcases Bool.eq_false_or_eq_true B.ok with hok | hok
  case inr =>
    rw [hok] at hv
    have HV := Lib.hid hv; clear hv
    have R1 := Lib.hid (show (0 : Int) = ptsV B n from by simp [hitV, ptsV, hok])
    have R2 := Lib.hid (show (40 : Int) = ptsErr B n from by simp [askErr, ptsErr, hok])
    clear hok
    go_enter Try.func14, Try.ntmps14
    go_wp2_with (go_at_call 44; refine HV.out.mono ?_; rintro e w2 ⟨rfl, hb2⟩)
    go_ret2
    exact ⟨ret_2 R1.out R2.out, bT HB.out hb2⟩
  case inl =>
  rw [hok] at hv
  have HV := Lib.hid hv; clear hv
  have HOK := Lib.hid hok
  cases hin : within n 0 ((B.S.length : Int) - 1) with
  | false =>
    have R1 := Lib.hid (show (0 : Int) = ptsV B n from by simp [hitV, ptsV, hok, Book.isSay, hin])
    have R2 := Lib.hid (show (1 : Int) = ptsErr B n from by simp [askErr, ptsErr, hok, Book.isSay, hin])
    clear hok
    go_enter Try.func14, Try.ntmps14
    go_wp2_with (go_at_call 44; refine HV.out.mono ?_; rintro e w2 ⟨rfl, hb2⟩; have c0 := (hb2.cell (p := ⟨w.heap.size, 0, none⟩) k5).trans k0; have c1 := (hb2.cell (p := ⟨w.heap.size, 1, none⟩) k5).trans k1; have c2 := (hb2.cell (p := ⟨w.heap.size, 2, none⟩) k5).trans k2; have c3 := (hb2.cell (p := ⟨w.heap.size, 3, none⟩) k5).trans k3; have c4 := (hb2.cell (p := ⟨w.heap.size, 4, none⟩) k5).trans k4; have z1 := Nat.lt_of_lt_of_le k5 hb2.size)
    go_wp2_with (go_at_call 45; refine (isSaying_any _ _ _ _ _ _ _ _ _ hS).mono ?_; rintro e w3 ⟨rfl, hb3⟩)
    go_ret2
    exact ⟨ret_2 R1.out R2.out, bT HB.out (bT hb2 hb3)⟩
  | true =>
  obtain ⟨i0, i1⟩ := within_iff.1 hin
  obtain ⟨k, rfl⟩ : ∃ k : Nat, n = (k : Int) := ⟨n.toNat, by omega⟩
  have hk : k < B.S.length := by omega
  have hsay := Lib.hid (B.say_eq hk)
  obtain ⟨⟨s0, s1⟩, ⟨s2, s3⟩, ⟨s4, s5⟩, s6, s7⟩ := B.ok_say hok hk
  obtain ⟨⟨t0, t1⟩, t2, ⟨t3, t4⟩, _, _, _⟩ := B.ok_parts hok
  obtain ⟨b, o, rfl, hbl, hi⟩ := HBK.out.s (by omega)
  have e0 := hi.c0 k hk
  have e1 := hi.c1 k hk
  have e2 := hi.c2 k hk
  have e3 := hi.c3 k hk
  clear hi
  obtain ⟨b', o', rfl, hif⟩ := HBK.out.f (by omega)
  have e4 := at_cell hif s2 s3
  have hlf := hif.lt
  clear hif
  obtain ⟨w2, hv2⟩ : ∃ V : World → Prop, V = fun w2 => Below w1.heap.size w1 w2 := ⟨_, rfl⟩
  clear hv2 w2
  rcases Bool.eq_false_or_eq_true (ptsOpen B k) with hop | hop
  case inl =>
    have R1 := Lib.hid (show (0 : Int) = ptsV B k from by simp [ptsV, hop])
    have R2 := Lib.hid (show (3 : Int) = ptsErr B k from by simp [ptsErr, hok, Book.isSay, hin, hop])
    have hz : (B.at B.S[k].p == 0) = true := by unfold ptsOpen at hop; rw [hsay.out] at hop; exact hop
    clear hok hsay hop
    go_enter Try.func14, Try.ntmps14
    go_wp2_with (go_at_call 44; refine HV.out.mono ?_; rintro e w2 ⟨rfl, hb2⟩; have c0 := (hb2.cell (p := ⟨w.heap.size, 0, none⟩) k5).trans k0; have c1 := (hb2.cell (p := ⟨w.heap.size, 1, none⟩) k5).trans k1; have c2 := (hb2.cell (p := ⟨w.heap.size, 2, none⟩) k5).trans k2; have c3 := (hb2.cell (p := ⟨w.heap.size, 3, none⟩) k5).trans k3; have c4 := (hb2.cell (p := ⟨w.heap.size, 4, none⟩) k5).trans k4; have f0 := (hb2.cell (p := ⟨b, o + k * 4, none⟩) hbl).trans e0; have f1 := (hb2.cell (p := ⟨b, o + k * 4 + 1, none⟩) hbl).trans e1; have f2 := (hb2.cell (p := ⟨b, o + k * 4 + 2, none⟩) hbl).trans e2; have f3 := (hb2.cell (p := ⟨b, o + k * 4 + 3, none⟩) hbl).trans e3; have z1 := Nat.lt_of_lt_of_le k5 hb2.size; have z2 := Nat.lt_of_lt_of_le hbl hb2.size)
    go_wp2_with (go_at_call 45; refine (isSaying_any _ _ _ _ _ _ _ _ _ hS).mono ?_; rintro e w3 ⟨rfl, hb3⟩; have m0 := (hb3.cell (p := ⟨w.heap.size, 0, none⟩) z1).trans c0; have m1 := (hb3.cell (p := ⟨w.heap.size, 1, none⟩) z1).trans c1; have m2 := (hb3.cell (p := ⟨w.heap.size, 2, none⟩) z1).trans c2; have m3 := (hb3.cell (p := ⟨w.heap.size, 3, none⟩) z1).trans c3; have m4 := (hb3.cell (p := ⟨w.heap.size, 4, none⟩) z1).trans c4; have g0 := (hb3.cell (p := ⟨b, o + k * 4, none⟩) z2).trans f0; have g1 := (hb3.cell (p := ⟨b, o + k * 4 + 1, none⟩) z2).trans f1; have g2 := (hb3.cell (p := ⟨b, o + k * 4 + 2, none⟩) z2).trans f2; have g3 := (hb3.cell (p := ⟨b, o + k * 4 + 3, none⟩) z2).trans f3; have y1 := Nat.lt_of_lt_of_le z1 hb3.size; have y2 := Nat.lt_of_lt_of_le z2 hb3.size)
    obtain ⟨w4, hw4, hb4, hz4, u0, u1, u2, u3⟩ := box_say w3 B.S[k].d B.S[k].p B.S[k].l B.S[k].h
    have HBK4 := Lib.hid (((HBK.out.bel hb2).bel hb3).bel hb4)
    have HB4 := Lib.hid (bT HB.out (bT hb2 (bT hb3 hb4)))
    have v0 := (hb4.cell (p := ⟨w.heap.size, 0, none⟩) y1).trans m0; have v1 := (hb4.cell (p := ⟨w.heap.size, 1, none⟩) y1).trans m1; have v2 := (hb4.cell (p := ⟨w.heap.size, 2, none⟩) y1).trans m2; have v3 := (hb4.cell (p := ⟨w.heap.size, 3, none⟩) y1).trans m3; have v4 := (hb4.cell (p := ⟨w.heap.size, 4, none⟩) y1).trans m4
    clear hb2 hb3 hb4 hz4
    rw [hw4]
    go_wp2_with (go_at_call 47; refine (isOpen_any B _ _ c d B.S[k] _ HBK4.out hF s2 s3).mono ?_; rintro e w5 ⟨rfl, hb5⟩)
    go_ret2
    exact ⟨ret_2 R1.out R2.out, bT HB4.out hb5⟩
  case inr =>
    have R1 := Lib.hid (show pts B B.S[k] (B.at B.S[k].p) = ptsV B k from by rw [← hsay.out]; simp [ptsV, hok, Book.isSay, hin, hop])
    have R2 := Lib.hid (show (0 : Int) = ptsErr B k from by simp [ptsErr, askErr, hok, Book.isSay, hin, hop])
    have hz : (B.at B.S[k].p == 0) = false := by unfold ptsOpen at hop; rw [hsay.out] at hop; exact hop
    clear hok hsay hop
    go_enter Try.func14, Try.ntmps14
    go_wp2_with (go_at_call 44; refine HV.out.mono ?_; rintro e w2 ⟨rfl, hb2⟩; have c0 := (hb2.cell (p := ⟨w.heap.size, 0, none⟩) k5).trans k0; have c1 := (hb2.cell (p := ⟨w.heap.size, 1, none⟩) k5).trans k1; have c2 := (hb2.cell (p := ⟨w.heap.size, 2, none⟩) k5).trans k2; have c3 := (hb2.cell (p := ⟨w.heap.size, 3, none⟩) k5).trans k3; have c4 := (hb2.cell (p := ⟨w.heap.size, 4, none⟩) k5).trans k4; have f0 := (hb2.cell (p := ⟨b, o + k * 4, none⟩) hbl).trans e0; have f1 := (hb2.cell (p := ⟨b, o + k * 4 + 1, none⟩) hbl).trans e1; have f2 := (hb2.cell (p := ⟨b, o + k * 4 + 2, none⟩) hbl).trans e2; have f3 := (hb2.cell (p := ⟨b, o + k * 4 + 3, none⟩) hbl).trans e3; have z1 := Nat.lt_of_lt_of_le k5 hb2.size; have z2 := Nat.lt_of_lt_of_le hbl hb2.size)
    go_wp2_with (go_at_call 45; refine (isSaying_any _ _ _ _ _ _ _ _ _ hS).mono ?_; rintro e w3 ⟨rfl, hb3⟩; have m0 := (hb3.cell (p := ⟨w.heap.size, 0, none⟩) z1).trans c0; have m1 := (hb3.cell (p := ⟨w.heap.size, 1, none⟩) z1).trans c1; have m2 := (hb3.cell (p := ⟨w.heap.size, 2, none⟩) z1).trans c2; have m3 := (hb3.cell (p := ⟨w.heap.size, 3, none⟩) z1).trans c3; have m4 := (hb3.cell (p := ⟨w.heap.size, 4, none⟩) z1).trans c4; have g0 := (hb3.cell (p := ⟨b, o + k * 4, none⟩) z2).trans f0; have g1 := (hb3.cell (p := ⟨b, o + k * 4 + 1, none⟩) z2).trans f1; have g2 := (hb3.cell (p := ⟨b, o + k * 4 + 2, none⟩) z2).trans f2; have g3 := (hb3.cell (p := ⟨b, o + k * 4 + 3, none⟩) z2).trans f3; have y1 := Nat.lt_of_lt_of_le z1 hb3.size; have y2 := Nat.lt_of_lt_of_le z2 hb3.size)
    obtain ⟨w4, hw4, hb4, hz4, u0, u1, u2, u3⟩ := box_say w3 B.S[k].d B.S[k].p B.S[k].l B.S[k].h
    have HBK4 := Lib.hid (((HBK.out.bel hb2).bel hb3).bel hb4)
    have HB4 := Lib.hid (bT HB.out (bT hb2 (bT hb3 hb4)))
    have x1 := Nat.lt_of_lt_of_le y1 hb4.size
    have x3 : w3.heap.size < w4.heap.size := by omega
    have hlf4 : b' < w4.heap.size := Nat.lt_of_lt_of_le hlf (bT hb2 (bT hb3 hb4)).size
    have e5 := ((bT hb2 (bT hb3 hb4)).cell (p := ⟨b', o' + B.S[k].p.toNat, none⟩) hlf).trans e4
    have v0 := (hb4.cell (p := ⟨w.heap.size, 0, none⟩) y1).trans m0; have v1 := (hb4.cell (p := ⟨w.heap.size, 1, none⟩) y1).trans m1; have v2 := (hb4.cell (p := ⟨w.heap.size, 2, none⟩) y1).trans m2; have v3 := (hb4.cell (p := ⟨w.heap.size, 3, none⟩) y1).trans m3; have v4 := (hb4.cell (p := ⟨w.heap.size, 4, none⟩) y1).trans m4
    clear hb2 hb3 hb4 hz4
    rw [hw4]
    go_wp2_with (go_at_call 47; refine (isOpen_any B _ _ c d B.S[k] _ HBK4.out hF s2 s3).mono ?_; rintro e w5 ⟨rfl, hb5⟩; have n0 := (hb5.cell (p := ⟨w.heap.size, 0, none⟩) x1).trans v0; have n1 := (hb5.cell (p := ⟨w.heap.size, 1, none⟩) x1).trans v1; have n2 := (hb5.cell (p := ⟨w.heap.size, 2, none⟩) x1).trans v2; have n3 := (hb5.cell (p := ⟨w.heap.size, 3, none⟩) x1).trans v3; have n4 := (hb5.cell (p := ⟨w.heap.size, 4, none⟩) x1).trans v4; have u0 := (hb5.cell (p := ⟨w3.heap.size, 0, none⟩) x3).trans u0; have u1 := (hb5.cell (p := ⟨w3.heap.size, 1, none⟩) x3).trans u1; have u2 := (hb5.cell (p := ⟨w3.heap.size, 2, none⟩) x3).trans u2; have u3 := (hb5.cell (p := ⟨w3.heap.size, 3, none⟩) x3).trans u3; have e5 := (hb5.cell (p := ⟨b', o' + B.S[k].p.toNat, none⟩) hlf4).trans e5; have hlf5 := Nat.lt_of_lt_of_le hlf4 hb5.size; have x1 := Nat.lt_of_lt_of_le x1 hb5.size; have x3 := Nat.lt_of_lt_of_le x3 hb5.size)
    have HB5 := Lib.hid (bT HB4.out hb5); clear hb5
    have F0 : ∀ x : Ext w5, x.v.cell? ⟨w.heap.size, 0, none⟩ = some (.int .i64 B.D) := fun x => (x.b.cell (p := ⟨w.heap.size, 0, none⟩) x1).trans n0
    have F1 : ∀ x : Ext w5, x.v.cell? ⟨w.heap.size, 1, none⟩ = some (.slice (some ⟨b', o', none⟩) B.F.length c) := fun x => (x.b.cell (p := ⟨w.heap.size, 1, none⟩) x1).trans n1
    have F2 : ∀ x : Ext w5, x.v.cell? ⟨w.heap.size, 2, none⟩ = some (.int .i64 B.N) := fun x => (x.b.cell (p := ⟨w.heap.size, 2, none⟩) x1).trans n2
    have F3 : ∀ x : Ext w5, x.v.cell? ⟨w.heap.size, 3, none⟩ = some (.slice (some ⟨b, o, none⟩) B.S.length d) := fun x => (x.b.cell (p := ⟨w.heap.size, 3, none⟩) x1).trans n3
    have F4 : ∀ x : Ext w5, x.v.cell? ⟨w.heap.size, 4, none⟩ = some (.int .i64 B.P) := fun x => (x.b.cell (p := ⟨w.heap.size, 4, none⟩) x1).trans n4
    have F5 : ∀ x : Ext w5, x.v.cell? ⟨w3.heap.size, 0, none⟩ = some (.int .i64 B.S[k].d) := fun x => (x.b.cell (p := ⟨w3.heap.size, 0, none⟩) x3).trans u0
    have F6 : ∀ x : Ext w5, x.v.cell? ⟨w3.heap.size, 1, none⟩ = some (.int .i64 B.S[k].p) := fun x => (x.b.cell (p := ⟨w3.heap.size, 1, none⟩) x3).trans u1
    have F7 : ∀ x : Ext w5, x.v.cell? ⟨w3.heap.size, 2, none⟩ = some (.int .i64 B.S[k].l) := fun x => (x.b.cell (p := ⟨w3.heap.size, 2, none⟩) x3).trans u2
    have F8 : ∀ x : Ext w5, x.v.cell? ⟨w3.heap.size, 3, none⟩ = some (.int .i64 B.S[k].h) := fun x => (x.b.cell (p := ⟨w3.heap.size, 3, none⟩) x3).trans u3
    have F9 : ∀ x : Ext w5, x.v.cell? ⟨b', o' + B.S[k].p.toNat, none⟩ = some (.int .i64 (B.at B.S[k].p)) := fun x => (x.b.cell (p := ⟨b', o' + B.S[k].p.toNat, none⟩) hlf5).trans e5
    refine quiet_lit (by kernel_rfl) (by kernel_rfl) ?_
    repeat (first | go_big_quiet_step ((go_at_call 48; exact quiet_x (pointsOf_any B _ _ c d B.S[k] _ _ (by omega) (by omega) (by omega) (by omega) (by omega) (by omega)))) | quiet_step ((go_at_call 48; exact quiet_x (pointsOf_any B _ _ c d B.S[k] _ _ (by omega) (by omega) (by omega) (by omega) (by omega) (by omega)))))
    refine wpQuiet_nil ?_
    intro w6 hw6
    obtain ⟨⟨w6, hw6⟩, rfl⟩ := hw6
    have HW6 := Lib.hid hw6; clear hw6
    go_wp2
    go_ret2
    exact ⟨ret_2 R1.out R2.out, bT HB5.out HW6.out⟩
end Go.Proofs.Ytaaocomgmacjnaa
