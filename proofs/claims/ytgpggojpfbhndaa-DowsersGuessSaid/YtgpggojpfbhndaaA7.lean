/- Books of dowsers: Hit and Points of the specification, for any book and saying. -/
import Derived.Test.YtgpggojpfbhndaaA6
set_option linter.unusedSimpArgs false
set_option linter.unusedVariables false
namespace Go.Proofs.Ytgpggojpfbhndaa
open Go.RowKit

set_option maxHeartbeats 1000000 in
theorem askR_any (B : Book) (p q : Option Addr) (c d : Nat) (is : Bool) (w : World) (hF : B.F.length ≤ 1000000) (hS : B.S.length ≤ 1000000) (hb : BookIn w w.heap.size B p q) :
    Calls Try.prog 86 #[.agg #[.int .i64 B.D, .slice p B.F.length c, .int .i64 B.N, .slice q B.S.length d, .int .i64 B.P], .bool is] w fun e w' => e = .returned (.int .i64 (askErr B.ok is)) ∧ Below w.heap.size w w' := by
  obtain ⟨w1, hw1, hb1, hz1, x1⟩ := box_book w B p q c d
  have hv := checkR_any B p q c d w1 hF hS (hb.bel hb1)
  have HB := Lib.hid hb1
  obtain ⟨k0, k1, k2, k3, k4, k5⟩ := x1
  clear hb hb1 hz1
  rcases Bool.eq_false_or_eq_true B.ok with hok | hok
  · rw [hok, vErr_t] at hv
    have HV := Lib.hid hv; clear hv
    have HOK := Lib.hid hok; clear hok
    cases is with
    | true =>
      have HR := Lib.hid (show (0 : Int) = askErr B.ok true from by rw [HOK.out]; rfl)
      go_enter Try.func86, Try.ntmps86
      go_wp2_with (go_at_call 49; refine HV.out.mono ?_; rintro e w2 ⟨rfl, hb2⟩)
      go_ret
      exact ⟨ret_i HR.out, bT HB.out hb2⟩
    | false =>
      have HR := Lib.hid (show (1 : Int) = askErr B.ok false from by rw [HOK.out]; rfl)
      go_enter Try.func86, Try.ntmps86
      go_wp2_with (go_at_call 49; refine HV.out.mono ?_; rintro e w2 ⟨rfl, hb2⟩)
      go_ret
      exact ⟨ret_i HR.out, bT HB.out hb2⟩
  · rw [hok, vErr_f] at hv
    have HV := Lib.hid hv; clear hv
    have HR := Lib.hid (show (40 : Int) = askErr B.ok is from by rw [hok]; rfl); clear hok
    go_enter Try.func86, Try.ntmps86
    go_wp2_with (go_at_call 49; refine HV.out.mono ?_; rintro e w2 ⟨rfl, hb2⟩)
    go_ret
    exact ⟨ret_i HR.out, bT HB.out hb2⟩

set_option maxRecDepth 100000 in
set_option maxHeartbeats 2000000 in
/-- Hit of the specification -/
theorem hitRR_any (B : Book) (p q : Option Addr) (c d : Nat) (n : Int) (w : World) (hF : B.F.length ≤ 1000000) (hS : B.S.length ≤ 1000000) (hb : BookIn w w.heap.size B p q) :
    Calls Try.prog 50 #[.agg #[.int .i64 B.D, .slice p B.F.length c, .int .i64 B.N, .slice q B.S.length d, .int .i64 B.P], .int .i64 n] w fun e w' => e = .returned (.tuple #[.int .i64 (hitV B n), .int .i64 (askErr B.ok (B.isSay n))]) ∧ Below w.heap.size w w' := by
  obtain ⟨w1, hw1, hb1, hz1, x1⟩ := box_book w B p q c d
  have hbk := hb.bel hb1
  obtain ⟨k0, k1, k2, k3, k4, k5⟩ := x1
  have HB := Lib.hid hb1
  have HBK := Lib.hid hbk
  clear hb hb1 hz1 hbk
  rcases Bool.eq_false_or_eq_true B.ok with hok | hok
  case inr =>
    have R1 := Lib.hid (show (0 : Int) = hitV B n from by simp [hitV, ptsV, hok])
    have R2 := Lib.hid (show (40 : Int) = askErr B.ok (B.isSay n) from by simp [askErr, ptsErr, hok])
    have ha : askErr B.ok (within n 0 ((B.S.length : Int) - 1)) = 40 := by rw [hok]; rfl
    have F0 : ∀ x : Ext w1, x.v.cell? ⟨w.heap.size, 0, none⟩ = some (.int .i64 B.D) := fun x => (x.b.cell (p := ⟨w.heap.size, 0, none⟩) k5).trans k0
    have F1 : ∀ x : Ext w1, x.v.cell? ⟨w.heap.size, 1, none⟩ = some (.slice p B.F.length c) := fun x => (x.b.cell (p := ⟨w.heap.size, 1, none⟩) k5).trans k1
    have F2 : ∀ x : Ext w1, x.v.cell? ⟨w.heap.size, 2, none⟩ = some (.int .i64 B.N) := fun x => (x.b.cell (p := ⟨w.heap.size, 2, none⟩) k5).trans k2
    have F3 : ∀ x : Ext w1, x.v.cell? ⟨w.heap.size, 3, none⟩ = some (.slice q B.S.length d) := fun x => (x.b.cell (p := ⟨w.heap.size, 3, none⟩) k5).trans k3
    have F4 : ∀ x : Ext w1, x.v.cell? ⟨w.heap.size, 4, none⟩ = some (.int .i64 B.P) := fun x => (x.b.cell (p := ⟨w.heap.size, 4, none⟩) k5).trans k4
    clear hok
    go_enter Try.func50, Try.ntmps50
    go_wp2
    refine quiet_lit (by kernel_rfl) (by kernel_rfl) ?_
    repeat (first | go_big_quiet_step (first | (go_at_call 16; exact quiet_x (isSayingR_any _ _ _ _ _ _ _ _ _ hS)) | (go_at_call 86; exact quiet_x (askR_any B _ _ c d _ _ hF hS (HBK.out.bel (by rename_i x; exact x.b))))) | quiet_step (first | (go_at_call 16; exact quiet_x (isSayingR_any _ _ _ _ _ _ _ _ _ hS)) | (go_at_call 86; exact quiet_x (askR_any B _ _ c d _ _ hF hS (HBK.out.bel (by rename_i x; exact x.b))))))
    refine wpQuiet_nil ?_
    intro w2 hw2
    obtain ⟨⟨w2, hw2⟩, rfl⟩ := hw2
    have HW2 := Lib.hid hw2; clear hw2
    go_wp2
    go_ret2
    exact ⟨ret_2 R1.out (ha.trans R2.out), bT HB.out HW2.out⟩
  case inl =>
  cases hin : within n 0 ((B.S.length : Int) - 1) with
  | false =>
    have R1 := Lib.hid (show (0 : Int) = hitV B n from by simp [hitV, ptsV, hok, Book.isSay, hin])
    have R2 := Lib.hid (show (1 : Int) = askErr B.ok (B.isSay n) from by simp [askErr, ptsErr, hok, Book.isSay, hin])
    have ha : askErr B.ok false = 1 := by rw [hok]; rfl
    have F0 : ∀ x : Ext w1, x.v.cell? ⟨w.heap.size, 0, none⟩ = some (.int .i64 B.D) := fun x => (x.b.cell (p := ⟨w.heap.size, 0, none⟩) k5).trans k0
    have F1 : ∀ x : Ext w1, x.v.cell? ⟨w.heap.size, 1, none⟩ = some (.slice p B.F.length c) := fun x => (x.b.cell (p := ⟨w.heap.size, 1, none⟩) k5).trans k1
    have F2 : ∀ x : Ext w1, x.v.cell? ⟨w.heap.size, 2, none⟩ = some (.int .i64 B.N) := fun x => (x.b.cell (p := ⟨w.heap.size, 2, none⟩) k5).trans k2
    have F3 : ∀ x : Ext w1, x.v.cell? ⟨w.heap.size, 3, none⟩ = some (.slice q B.S.length d) := fun x => (x.b.cell (p := ⟨w.heap.size, 3, none⟩) k5).trans k3
    have F4 : ∀ x : Ext w1, x.v.cell? ⟨w.heap.size, 4, none⟩ = some (.int .i64 B.P) := fun x => (x.b.cell (p := ⟨w.heap.size, 4, none⟩) k5).trans k4
    clear hok
    go_enter Try.func50, Try.ntmps50
    go_wp2
    refine quiet_lit (by kernel_rfl) (by kernel_rfl) ?_
    repeat (first | go_big_quiet_step (first | (go_at_call 16; exact quiet_x (isSayingR_any _ _ _ _ _ _ _ _ _ hS)) | (go_at_call 86; exact quiet_x (askR_any B _ _ c d _ _ hF hS (HBK.out.bel (by rename_i x; exact x.b))))) | quiet_step (first | (go_at_call 16; exact quiet_x (isSayingR_any _ _ _ _ _ _ _ _ _ hS)) | (go_at_call 86; exact quiet_x (askR_any B _ _ c d _ _ hF hS (HBK.out.bel (by rename_i x; exact x.b))))))
    refine wpQuiet_nil ?_
    intro w2 hw2
    obtain ⟨⟨w2, hw2⟩, rfl⟩ := hw2
    have HW2 := Lib.hid hw2; clear hw2
    go_wp2
    go_ret2
    exact ⟨ret_2 R1.out (ha.trans R2.out), bT HB.out HW2.out⟩
  | true =>
  obtain ⟨i0, i1⟩ := within_iff.1 hin
  obtain ⟨k, rfl⟩ : ∃ k : Nat, n = (k : Int) := ⟨n.toNat, by omega⟩
  have hk : k < B.S.length := by omega
  have hsay := Lib.hid (B.say_eq hk)
  obtain ⟨⟨s0, s1⟩, ⟨s2, s3⟩, ⟨s4, s5⟩, s6, s7⟩ := B.ok_say hok hk
  obtain ⟨⟨t0, t1⟩, t2, ⟨t3, t4⟩, _, _, _⟩ := B.ok_parts hok
  obtain ⟨b, o, rfl, hbl, hi⟩ := HBK.out.s (by omega)
  have e0 := hi.c0 k hk
  have e1 := hi.c1 k hk
  have e2 := hi.c2 k hk
  have e3 := hi.c3 k hk
  clear hi
  obtain ⟨b', o', rfl, hif⟩ := HBK.out.f (by omega)
  have e4 := at_cell hif s2 s3
  have hlf := hif.lt
  have HIF := Lib.hid hif
  clear hif
  have ha : askErr B.ok true = 0 := by rw [hok]; rfl
  · have R1 := Lib.hid (show hit B B.S[k] = hitV B k from by rw [← hsay.out]; simp [hitV, hok, Book.isSay, hin])
    have R2 := Lib.hid (show (0 : Int) = askErr B.ok (B.isSay k) from by simp [askErr, hok, Book.isSay, hin])
    have jb : decide ((k : Int) < (B.S.length : Int)) = true := by simp; omega
    have F0 : ∀ x : Ext w1, x.v.cell? ⟨w.heap.size, 0, none⟩ = some (.int .i64 B.D) := fun x => (x.b.cell (p := ⟨w.heap.size, 0, none⟩) k5).trans k0
    have F1 : ∀ x : Ext w1, x.v.cell? ⟨w.heap.size, 1, none⟩ = some (.slice (some ⟨b', o', none⟩) B.F.length c) := fun x => (x.b.cell (p := ⟨w.heap.size, 1, none⟩) k5).trans k1
    have F2 : ∀ x : Ext w1, x.v.cell? ⟨w.heap.size, 2, none⟩ = some (.int .i64 B.N) := fun x => (x.b.cell (p := ⟨w.heap.size, 2, none⟩) k5).trans k2
    have F3 : ∀ x : Ext w1, x.v.cell? ⟨w.heap.size, 3, none⟩ = some (.slice (some ⟨b, o, none⟩) B.S.length d) := fun x => (x.b.cell (p := ⟨w.heap.size, 3, none⟩) k5).trans k3
    have F4 : ∀ x : Ext w1, x.v.cell? ⟨w.heap.size, 4, none⟩ = some (.int .i64 B.P) := fun x => (x.b.cell (p := ⟨w.heap.size, 4, none⟩) k5).trans k4
    have F5 : ∀ x : Ext w1, x.v.cell? ⟨b, o + k * 4, none⟩ = some (.int .i64 B.S[k].d) := fun x => (x.b.cell (p := ⟨b, o + k * 4, none⟩) hbl).trans e0
    have F6 : ∀ x : Ext w1, x.v.cell? ⟨b, o + k * 4 + 1, none⟩ = some (.int .i64 B.S[k].p) := fun x => (x.b.cell (p := ⟨b, o + k * 4 + 1, none⟩) hbl).trans e1
    have F7 : ∀ x : Ext w1, x.v.cell? ⟨b, o + k * 4 + 2, none⟩ = some (.int .i64 B.S[k].l) := fun x => (x.b.cell (p := ⟨b, o + k * 4 + 2, none⟩) hbl).trans e2
    have F8 : ∀ x : Ext w1, x.v.cell? ⟨b, o + k * 4 + 3, none⟩ = some (.int .i64 B.S[k].h) := fun x => (x.b.cell (p := ⟨b, o + k * 4 + 3, none⟩) hbl).trans e3
    have F9 : ∀ x : Ext w1, x.v.cell? ⟨b', o' + B.S[k].p.toNat, none⟩ = some (.int .i64 (B.at B.S[k].p)) := fun x => (x.b.cell (p := ⟨b', o' + B.S[k].p.toNat, none⟩) hlf).trans e4
    clear hok hsay
    go_enter Try.func50, Try.ntmps50
    go_wp2
    refine quiet_lit (by kernel_rfl) (by kernel_rfl) ?_
    repeat (first | go_big_quiet_step (first | (go_at_call 16; exact quiet_x (isSayingR_any _ _ _ _ _ _ _ _ _ hS)) | (go_at_call 86; exact quiet_x (askR_any B _ _ c d _ _ hF hS (HBK.out.bel (by rename_i x; exact x.b))))) | quiet_step (first | (go_at_call 16; exact quiet_x (isSayingR_any _ _ _ _ _ _ _ _ _ hS)) | (go_at_call 86; exact quiet_x (askR_any B _ _ c d _ _ hF hS (HBK.out.bel (by rename_i x; exact x.b))))))
    refine wpQuiet_nil ?_
    intro w2 hw2
    obtain ⟨⟨w2, hw2⟩, rfl⟩ := hw2
    have HW2 := Lib.hid hw2; clear hw2
    go_wp2
    have G0 : ∀ x : Ext w2, x.v.cell? ⟨w.heap.size, 0, none⟩ = some (.int .i64 B.D) := fun x => F0 (x.up HW2.out)
    have G1 : ∀ x : Ext w2, x.v.cell? ⟨w.heap.size, 1, none⟩ = some (.slice (some ⟨b', o', none⟩) B.F.length c) := fun x => F1 (x.up HW2.out)
    have G2 : ∀ x : Ext w2, x.v.cell? ⟨w.heap.size, 2, none⟩ = some (.int .i64 B.N) := fun x => F2 (x.up HW2.out)
    have G3 : ∀ x : Ext w2, x.v.cell? ⟨w.heap.size, 3, none⟩ = some (.slice (some ⟨b, o, none⟩) B.S.length d) := fun x => F3 (x.up HW2.out)
    have G4 : ∀ x : Ext w2, x.v.cell? ⟨w.heap.size, 4, none⟩ = some (.int .i64 B.P) := fun x => F4 (x.up HW2.out)
    have G5 : ∀ x : Ext w2, x.v.cell? ⟨b, o + k * 4, none⟩ = some (.int .i64 B.S[k].d) := fun x => F5 (x.up HW2.out)
    have G6 : ∀ x : Ext w2, x.v.cell? ⟨b, o + k * 4 + 1, none⟩ = some (.int .i64 B.S[k].p) := fun x => F6 (x.up HW2.out)
    have G7 : ∀ x : Ext w2, x.v.cell? ⟨b, o + k * 4 + 2, none⟩ = some (.int .i64 B.S[k].l) := fun x => F7 (x.up HW2.out)
    have G8 : ∀ x : Ext w2, x.v.cell? ⟨b, o + k * 4 + 3, none⟩ = some (.int .i64 B.S[k].h) := fun x => F8 (x.up HW2.out)
    have G9 : ∀ x : Ext w2, x.v.cell? ⟨b', o' + B.S[k].p.toNat, none⟩ = some (.int .i64 (B.at B.S[k].p)) := fun x => F9 (x.up HW2.out)
    clear F0 F1 F2 F3 F4 F5 F6 F7 F8 F9
    refine quiet_lit (by kernel_rfl) (by kernel_rfl) ?_
    repeat (first | go_big_quiet_step ((go_at_call 79; exact quiet_x (hitR_any B (some ⟨b', o', none⟩) c B.S[k] _ ⟨b', o', rfl, (HIF.out.below (bT HW2.out (by rename_i x; exact x.b))).mono (bT HW2.out (by rename_i x; exact x.b)).size⟩ hF s2 s3))) | quiet_step ((go_at_call 79; exact quiet_x (hitR_any B (some ⟨b', o', none⟩) c B.S[k] _ ⟨b', o', rfl, (HIF.out.below (bT HW2.out (by rename_i x; exact x.b))).mono (bT HW2.out (by rename_i x; exact x.b)).size⟩ hF s2 s3))))
    refine wpQuiet_nil ?_
    intro w3 hw3
    obtain ⟨⟨w3, hw3⟩, rfl⟩ := hw3
    have HW3 := Lib.hid hw3; clear hw3
    go_wp2
    go_ret2
    exact ⟨ret_2 R1.out R2.out, bT HB.out (bT HW2.out HW3.out)⟩

set_option maxRecDepth 100000 in
set_option maxHeartbeats 4000000 in
/-- Points of the specification -/
theorem pointsRR_any (B : Book) (p q : Option Addr) (c d : Nat) (n : Int) (w : World) (hF : B.F.length ≤ 1000000) (hS : B.S.length ≤ 1000000) (hb : BookIn w w.heap.size B p q) :
    Calls Try.prog 51 #[.agg #[.int .i64 B.D, .slice p B.F.length c, .int .i64 B.N, .slice q B.S.length d, .int .i64 B.P], .int .i64 n] w fun e w' => e = .returned (.tuple #[.int .i64 (ptsV B n), .int .i64 (ptsErr B n)]) ∧ Below w.heap.size w w' := by
  obtain ⟨w1, hw1, hb1, hz1, x1⟩ := box_book w B p q c d
  have hbk := hb.bel hb1
  obtain ⟨k0, k1, k2, k3, k4, k5⟩ := x1
  have HB := Lib.hid hb1
  have HBK := Lib.hid hbk
  clear hb hb1 hz1 hbk
  rcases Bool.eq_false_or_eq_true B.ok with hok | hok
  case inr =>
    have R1 := Lib.hid (show (0 : Int) = ptsV B n from by simp [hitV, ptsV, hok])
    have R2 := Lib.hid (show (40 : Int) = ptsErr B n from by simp [askErr, ptsErr, hok])
    have ha : askErr B.ok (within n 0 ((B.S.length : Int) - 1)) = 40 := by rw [hok]; rfl
    have F0 : ∀ x : Ext w1, x.v.cell? ⟨w.heap.size, 0, none⟩ = some (.int .i64 B.D) := fun x => (x.b.cell (p := ⟨w.heap.size, 0, none⟩) k5).trans k0
    have F1 : ∀ x : Ext w1, x.v.cell? ⟨w.heap.size, 1, none⟩ = some (.slice p B.F.length c) := fun x => (x.b.cell (p := ⟨w.heap.size, 1, none⟩) k5).trans k1
    have F2 : ∀ x : Ext w1, x.v.cell? ⟨w.heap.size, 2, none⟩ = some (.int .i64 B.N) := fun x => (x.b.cell (p := ⟨w.heap.size, 2, none⟩) k5).trans k2
    have F3 : ∀ x : Ext w1, x.v.cell? ⟨w.heap.size, 3, none⟩ = some (.slice q B.S.length d) := fun x => (x.b.cell (p := ⟨w.heap.size, 3, none⟩) k5).trans k3
    have F4 : ∀ x : Ext w1, x.v.cell? ⟨w.heap.size, 4, none⟩ = some (.int .i64 B.P) := fun x => (x.b.cell (p := ⟨w.heap.size, 4, none⟩) k5).trans k4
    clear hok
    go_enter Try.func51, Try.ntmps51
    go_wp2
    refine quiet_lit (by kernel_rfl) (by kernel_rfl) ?_
    repeat (first | go_big_quiet_step (first | (go_at_call 16; exact quiet_x (isSayingR_any _ _ _ _ _ _ _ _ _ hS)) | (go_at_call 86; exact quiet_x (askR_any B _ _ c d _ _ hF hS (HBK.out.bel (by rename_i x; exact x.b))))) | quiet_step (first | (go_at_call 16; exact quiet_x (isSayingR_any _ _ _ _ _ _ _ _ _ hS)) | (go_at_call 86; exact quiet_x (askR_any B _ _ c d _ _ hF hS (HBK.out.bel (by rename_i x; exact x.b))))))
    refine wpQuiet_nil ?_
    intro w2 hw2
    obtain ⟨⟨w2, hw2⟩, rfl⟩ := hw2
    have HW2 := Lib.hid hw2; clear hw2
    go_wp2
    go_ret2
    exact ⟨ret_2 R1.out (ha.trans R2.out), bT HB.out HW2.out⟩
  case inl =>
  cases hin : within n 0 ((B.S.length : Int) - 1) with
  | false =>
    have R1 := Lib.hid (show (0 : Int) = ptsV B n from by simp [hitV, ptsV, hok, Book.isSay, hin])
    have R2 := Lib.hid (show (1 : Int) = ptsErr B n from by simp [askErr, ptsErr, hok, Book.isSay, hin])
    have ha : askErr B.ok false = 1 := by rw [hok]; rfl
    have F0 : ∀ x : Ext w1, x.v.cell? ⟨w.heap.size, 0, none⟩ = some (.int .i64 B.D) := fun x => (x.b.cell (p := ⟨w.heap.size, 0, none⟩) k5).trans k0
    have F1 : ∀ x : Ext w1, x.v.cell? ⟨w.heap.size, 1, none⟩ = some (.slice p B.F.length c) := fun x => (x.b.cell (p := ⟨w.heap.size, 1, none⟩) k5).trans k1
    have F2 : ∀ x : Ext w1, x.v.cell? ⟨w.heap.size, 2, none⟩ = some (.int .i64 B.N) := fun x => (x.b.cell (p := ⟨w.heap.size, 2, none⟩) k5).trans k2
    have F3 : ∀ x : Ext w1, x.v.cell? ⟨w.heap.size, 3, none⟩ = some (.slice q B.S.length d) := fun x => (x.b.cell (p := ⟨w.heap.size, 3, none⟩) k5).trans k3
    have F4 : ∀ x : Ext w1, x.v.cell? ⟨w.heap.size, 4, none⟩ = some (.int .i64 B.P) := fun x => (x.b.cell (p := ⟨w.heap.size, 4, none⟩) k5).trans k4
    clear hok
    go_enter Try.func51, Try.ntmps51
    go_wp2
    refine quiet_lit (by kernel_rfl) (by kernel_rfl) ?_
    repeat (first | go_big_quiet_step (first | (go_at_call 16; exact quiet_x (isSayingR_any _ _ _ _ _ _ _ _ _ hS)) | (go_at_call 86; exact quiet_x (askR_any B _ _ c d _ _ hF hS (HBK.out.bel (by rename_i x; exact x.b))))) | quiet_step (first | (go_at_call 16; exact quiet_x (isSayingR_any _ _ _ _ _ _ _ _ _ hS)) | (go_at_call 86; exact quiet_x (askR_any B _ _ c d _ _ hF hS (HBK.out.bel (by rename_i x; exact x.b))))))
    refine wpQuiet_nil ?_
    intro w2 hw2
    obtain ⟨⟨w2, hw2⟩, rfl⟩ := hw2
    have HW2 := Lib.hid hw2; clear hw2
    go_wp2
    go_ret2
    exact ⟨ret_2 R1.out (ha.trans R2.out), bT HB.out HW2.out⟩
  | true =>
  obtain ⟨i0, i1⟩ := within_iff.1 hin
  obtain ⟨k, rfl⟩ : ∃ k : Nat, n = (k : Int) := ⟨n.toNat, by omega⟩
  have hk : k < B.S.length := by omega
  have hsay := Lib.hid (B.say_eq hk)
  obtain ⟨⟨s0, s1⟩, ⟨s2, s3⟩, ⟨s4, s5⟩, s6, s7⟩ := B.ok_say hok hk
  obtain ⟨⟨t0, t1⟩, t2, ⟨t3, t4⟩, _, _, _⟩ := B.ok_parts hok
  obtain ⟨b, o, rfl, hbl, hi⟩ := HBK.out.s (by omega)
  have e0 := hi.c0 k hk
  have e1 := hi.c1 k hk
  have e2 := hi.c2 k hk
  have e3 := hi.c3 k hk
  clear hi
  obtain ⟨b', o', rfl, hif⟩ := HBK.out.f (by omega)
  have e4 := at_cell hif s2 s3
  have hlf := hif.lt
  have HIF := Lib.hid hif
  clear hif
  have ha : askErr B.ok true = 0 := by rw [hok]; rfl
  · have jb : decide ((k : Int) < (B.S.length : Int)) = true := by simp; omega
    have jf : decide (B.S[k].p < (B.F.length : Int)) = true := by simp; omega
    have F0 : ∀ x : Ext w1, x.v.cell? ⟨w.heap.size, 0, none⟩ = some (.int .i64 B.D) := fun x => (x.b.cell (p := ⟨w.heap.size, 0, none⟩) k5).trans k0
    have F1 : ∀ x : Ext w1, x.v.cell? ⟨w.heap.size, 1, none⟩ = some (.slice (some ⟨b', o', none⟩) B.F.length c) := fun x => (x.b.cell (p := ⟨w.heap.size, 1, none⟩) k5).trans k1
    have F2 : ∀ x : Ext w1, x.v.cell? ⟨w.heap.size, 2, none⟩ = some (.int .i64 B.N) := fun x => (x.b.cell (p := ⟨w.heap.size, 2, none⟩) k5).trans k2
    have F3 : ∀ x : Ext w1, x.v.cell? ⟨w.heap.size, 3, none⟩ = some (.slice (some ⟨b, o, none⟩) B.S.length d) := fun x => (x.b.cell (p := ⟨w.heap.size, 3, none⟩) k5).trans k3
    have F4 : ∀ x : Ext w1, x.v.cell? ⟨w.heap.size, 4, none⟩ = some (.int .i64 B.P) := fun x => (x.b.cell (p := ⟨w.heap.size, 4, none⟩) k5).trans k4
    have F5 : ∀ x : Ext w1, x.v.cell? ⟨b, o + k * 4, none⟩ = some (.int .i64 B.S[k].d) := fun x => (x.b.cell (p := ⟨b, o + k * 4, none⟩) hbl).trans e0
    have F6 : ∀ x : Ext w1, x.v.cell? ⟨b, o + k * 4 + 1, none⟩ = some (.int .i64 B.S[k].p) := fun x => (x.b.cell (p := ⟨b, o + k * 4 + 1, none⟩) hbl).trans e1
    have F7 : ∀ x : Ext w1, x.v.cell? ⟨b, o + k * 4 + 2, none⟩ = some (.int .i64 B.S[k].l) := fun x => (x.b.cell (p := ⟨b, o + k * 4 + 2, none⟩) hbl).trans e2
    have F8 : ∀ x : Ext w1, x.v.cell? ⟨b, o + k * 4 + 3, none⟩ = some (.int .i64 B.S[k].h) := fun x => (x.b.cell (p := ⟨b, o + k * 4 + 3, none⟩) hbl).trans e3
    have F9 : ∀ x : Ext w1, x.v.cell? ⟨b', o' + B.S[k].p.toNat, none⟩ = some (.int .i64 (B.at B.S[k].p)) := fun x => (x.b.cell (p := ⟨b', o' + B.S[k].p.toNat, none⟩) hlf).trans e4
    rcases Bool.eq_false_or_eq_true (ptsOpen B k) with hop | hop
    · have R1 := Lib.hid (show (0 : Int) = ptsV B k from by simp [ptsV, hop])
      have R2 := Lib.hid (show (3 : Int) = ptsErr B k from by simp [ptsErr, hok, Book.isSay, hin, hop])
      have hz : (B.at B.S[k].p == 0) = true := by unfold ptsOpen at hop; rw [hsay.out] at hop; exact hop
      clear hok hsay hop
      go_enter Try.func51, Try.ntmps51
      go_wp2
      refine quiet_lit (by kernel_rfl) (by kernel_rfl) ?_
      repeat (first | go_big_quiet_step (first | (go_at_call 16; exact quiet_x (isSayingR_any _ _ _ _ _ _ _ _ _ hS)) | (go_at_call 86; exact quiet_x (askR_any B _ _ c d _ _ hF hS (HBK.out.bel (by rename_i x; exact x.b))))) | quiet_step (first | (go_at_call 16; exact quiet_x (isSayingR_any _ _ _ _ _ _ _ _ _ hS)) | (go_at_call 86; exact quiet_x (askR_any B _ _ c d _ _ hF hS (HBK.out.bel (by rename_i x; exact x.b))))))
      refine wpQuiet_nil ?_
      intro w2 hw2
      obtain ⟨⟨w2, hw2⟩, rfl⟩ := hw2
      have HW2 := Lib.hid hw2; clear hw2
      go_wp2
      have G0 : ∀ x : Ext w2, x.v.cell? ⟨w.heap.size, 0, none⟩ = some (.int .i64 B.D) := fun x => F0 (x.up HW2.out)
      have G1 : ∀ x : Ext w2, x.v.cell? ⟨w.heap.size, 1, none⟩ = some (.slice (some ⟨b', o', none⟩) B.F.length c) := fun x => F1 (x.up HW2.out)
      have G2 : ∀ x : Ext w2, x.v.cell? ⟨w.heap.size, 2, none⟩ = some (.int .i64 B.N) := fun x => F2 (x.up HW2.out)
      have G3 : ∀ x : Ext w2, x.v.cell? ⟨w.heap.size, 3, none⟩ = some (.slice (some ⟨b, o, none⟩) B.S.length d) := fun x => F3 (x.up HW2.out)
      have G4 : ∀ x : Ext w2, x.v.cell? ⟨w.heap.size, 4, none⟩ = some (.int .i64 B.P) := fun x => F4 (x.up HW2.out)
      have G5 : ∀ x : Ext w2, x.v.cell? ⟨b, o + k * 4, none⟩ = some (.int .i64 B.S[k].d) := fun x => F5 (x.up HW2.out)
      have G6 : ∀ x : Ext w2, x.v.cell? ⟨b, o + k * 4 + 1, none⟩ = some (.int .i64 B.S[k].p) := fun x => F6 (x.up HW2.out)
      have G7 : ∀ x : Ext w2, x.v.cell? ⟨b, o + k * 4 + 2, none⟩ = some (.int .i64 B.S[k].l) := fun x => F7 (x.up HW2.out)
      have G8 : ∀ x : Ext w2, x.v.cell? ⟨b, o + k * 4 + 3, none⟩ = some (.int .i64 B.S[k].h) := fun x => F8 (x.up HW2.out)
      have G9 : ∀ x : Ext w2, x.v.cell? ⟨b', o' + B.S[k].p.toNat, none⟩ = some (.int .i64 (B.at B.S[k].p)) := fun x => F9 (x.up HW2.out)
      clear F0 F1 F2 F3 F4 F5 F6 F7 F8 F9
      refine quiet_lit (by kernel_rfl) (by kernel_rfl) ?_
      repeat (first | go_big_quiet_step (fail) | quiet_step (fail))
      refine wpQuiet_nil ?_
      intro w3 hw3
      obtain ⟨⟨w3, hw3⟩, rfl⟩ := hw3
      have HW3 := Lib.hid hw3; clear hw3
      go_wp2
      go_ret2
      exact ⟨ret_2 R1.out R2.out, bT HB.out (bT HW2.out HW3.out)⟩
    · have R1 := Lib.hid (show pts B B.S[k] (B.at B.S[k].p) = ptsV B k from by rw [← hsay.out]; simp [ptsV, hok, Book.isSay, hin, hop])
      have R2 := Lib.hid (show (0 : Int) = ptsErr B k from by simp [ptsErr, askErr, hok, Book.isSay, hin, hop])
      have hz : (B.at B.S[k].p == 0) = false := by unfold ptsOpen at hop; rw [hsay.out] at hop; exact hop
      have HZ := Lib.hid (show B.at B.S[k].p ≠ 0 from by simpa using hz)
      clear hok hsay hop
      go_enter Try.func51, Try.ntmps51
      go_wp2
      refine quiet_lit (by kernel_rfl) (by kernel_rfl) ?_
      repeat (first | go_big_quiet_step (first | (go_at_call 16; exact quiet_x (isSayingR_any _ _ _ _ _ _ _ _ _ hS)) | (go_at_call 86; exact quiet_x (askR_any B _ _ c d _ _ hF hS (HBK.out.bel (by rename_i x; exact x.b))))) | quiet_step (first | (go_at_call 16; exact quiet_x (isSayingR_any _ _ _ _ _ _ _ _ _ hS)) | (go_at_call 86; exact quiet_x (askR_any B _ _ c d _ _ hF hS (HBK.out.bel (by rename_i x; exact x.b))))))
      refine wpQuiet_nil ?_
      intro w2 hw2
      obtain ⟨⟨w2, hw2⟩, rfl⟩ := hw2
      have HW2 := Lib.hid hw2; clear hw2
      go_wp2
      have G0 : ∀ x : Ext w2, x.v.cell? ⟨w.heap.size, 0, none⟩ = some (.int .i64 B.D) := fun x => F0 (x.up HW2.out)
      have G1 : ∀ x : Ext w2, x.v.cell? ⟨w.heap.size, 1, none⟩ = some (.slice (some ⟨b', o', none⟩) B.F.length c) := fun x => F1 (x.up HW2.out)
      have G2 : ∀ x : Ext w2, x.v.cell? ⟨w.heap.size, 2, none⟩ = some (.int .i64 B.N) := fun x => F2 (x.up HW2.out)
      have G3 : ∀ x : Ext w2, x.v.cell? ⟨w.heap.size, 3, none⟩ = some (.slice (some ⟨b, o, none⟩) B.S.length d) := fun x => F3 (x.up HW2.out)
      have G4 : ∀ x : Ext w2, x.v.cell? ⟨w.heap.size, 4, none⟩ = some (.int .i64 B.P) := fun x => F4 (x.up HW2.out)
      have G5 : ∀ x : Ext w2, x.v.cell? ⟨b, o + k * 4, none⟩ = some (.int .i64 B.S[k].d) := fun x => F5 (x.up HW2.out)
      have G6 : ∀ x : Ext w2, x.v.cell? ⟨b, o + k * 4 + 1, none⟩ = some (.int .i64 B.S[k].p) := fun x => F6 (x.up HW2.out)
      have G7 : ∀ x : Ext w2, x.v.cell? ⟨b, o + k * 4 + 2, none⟩ = some (.int .i64 B.S[k].l) := fun x => F7 (x.up HW2.out)
      have G8 : ∀ x : Ext w2, x.v.cell? ⟨b, o + k * 4 + 3, none⟩ = some (.int .i64 B.S[k].h) := fun x => F8 (x.up HW2.out)
      have G9 : ∀ x : Ext w2, x.v.cell? ⟨b', o' + B.S[k].p.toNat, none⟩ = some (.int .i64 (B.at B.S[k].p)) := fun x => F9 (x.up HW2.out)
      refine quiet_lit (by kernel_rfl) (by kernel_rfl) ?_
      repeat (first | go_big_quiet_step (fail) | quiet_step (fail))
      refine wpQuiet_nil ?_
      intro w3 hw3
      obtain ⟨⟨w3, hw3⟩, rfl⟩ := hw3
      have HW3 := Lib.hid hw3; clear hw3
      go_wp2
      have HW := Lib.hid (bT HW2.out HW3.out)
      clear G0 G1 G2 G3 G4 G5 G6 G7 G8 G9
      have G0 : ∀ x : Ext w3, x.v.cell? ⟨w.heap.size, 0, none⟩ = some (.int .i64 B.D) := fun x => F0 (x.up HW.out)
      have G1 : ∀ x : Ext w3, x.v.cell? ⟨w.heap.size, 1, none⟩ = some (.slice (some ⟨b', o', none⟩) B.F.length c) := fun x => F1 (x.up HW.out)
      have G2 : ∀ x : Ext w3, x.v.cell? ⟨w.heap.size, 2, none⟩ = some (.int .i64 B.N) := fun x => F2 (x.up HW.out)
      have G3 : ∀ x : Ext w3, x.v.cell? ⟨w.heap.size, 3, none⟩ = some (.slice (some ⟨b, o, none⟩) B.S.length d) := fun x => F3 (x.up HW.out)
      have G4 : ∀ x : Ext w3, x.v.cell? ⟨w.heap.size, 4, none⟩ = some (.int .i64 B.P) := fun x => F4 (x.up HW.out)
      have G5 : ∀ x : Ext w3, x.v.cell? ⟨b, o + k * 4, none⟩ = some (.int .i64 B.S[k].d) := fun x => F5 (x.up HW.out)
      have G6 : ∀ x : Ext w3, x.v.cell? ⟨b, o + k * 4 + 1, none⟩ = some (.int .i64 B.S[k].p) := fun x => F6 (x.up HW.out)
      have G7 : ∀ x : Ext w3, x.v.cell? ⟨b, o + k * 4 + 2, none⟩ = some (.int .i64 B.S[k].l) := fun x => F7 (x.up HW.out)
      have G8 : ∀ x : Ext w3, x.v.cell? ⟨b, o + k * 4 + 3, none⟩ = some (.int .i64 B.S[k].h) := fun x => F8 (x.up HW.out)
      have G9 : ∀ x : Ext w3, x.v.cell? ⟨b', o' + B.S[k].p.toNat, none⟩ = some (.int .i64 (B.at B.S[k].p)) := fun x => F9 (x.up HW.out)
      clear F0 F1 F2 F3 F4 F5 F6 F7 F8 F9
      refine quiet_lit (by kernel_rfl) (by kernel_rfl) ?_
      repeat (first | go_big_quiet_step ((go_at_call 85; exact quiet_x (pointsR_any B (some ⟨b', o', none⟩) _ c d B.S[k] _ ⟨b', o', rfl, (HIF.out.below (bT HW.out (by rename_i x; exact x.b))).mono (bT HW.out (by rename_i x; exact x.b)).size⟩ hF s2 s3 HZ.out (by omega) (by omega) (by omega) (by omega) (by omega) (by omega)))) | quiet_step ((go_at_call 85; exact quiet_x (pointsR_any B (some ⟨b', o', none⟩) _ c d B.S[k] _ ⟨b', o', rfl, (HIF.out.below (bT HW.out (by rename_i x; exact x.b))).mono (bT HW.out (by rename_i x; exact x.b)).size⟩ hF s2 s3 HZ.out (by omega) (by omega) (by omega) (by omega) (by omega) (by omega)))))
      refine wpQuiet_nil ?_
      intro w4 hw4
      obtain ⟨⟨w4, hw4⟩, rfl⟩ := hw4
      have HW4 := Lib.hid hw4; clear hw4
      go_wp2
      go_ret2
      exact ⟨ret_2 R1.out R2.out, bT HB.out (bT HW.out HW4.out)⟩
end Go.Proofs.Ytgpggojpfbhndaa
