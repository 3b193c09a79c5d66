/- Books of dowsers: Score of the program. -/
import Derived.Test.YtaaocomgmacjnaaD3

set_option linter.unusedSimpArgs false

set_option linter.unusedVariables false

namespace Go.Proofs.Ytaaocomgmacjnaa

open Go.RowKit

def Book.isDow (B : Book) (n : Int) : Bool := within n 0 (B.N - 1)
def scV (B : Book) (n : Int) : Int := if B.ok && B.isDow n then scTo B B.F.length n.toNat else 0
set_option maxRecDepth 100000 in
set_option maxHeartbeats 4000000 in
theorem scoreP_any (B : Book) (p q : Option Addr) (c d : Nat) (n : Int) (w : World) (hF : B.F.length ≤ 1000) (hS : B.S.length ≤ 1000) (ht : BookIn w w.heap.size B p q) :
    Calls Try.prog 15 #[.agg #[.int .i64 B.D, .slice p B.F.length c, .int .i64 B.N, .slice q B.S.length d, .int .i64 B.P], .int .i64 n] w fun e w' => e = .returned (.tuple #[.int .i64 (scV B n), .int .i64 (askErr B.ok (B.isDow n))]) ∧ Below w.heap.size w w' := by
  obtain ⟨w1, hw1, hb1, hz1, hx1⟩ := box_book w B p q c d
  have hbk := ht.bel hb1
  have hv := valid_any B p q c d w1 (by omega) (by omega) hbk
  have HB1 := Lib.hid hb1
  have HX := Lib.hid hx1
  have k0 := hx1.c0; have k1 := hx1.c1; have k2 := hx1.c2; have k3 := hx1.c3; have k4 := hx1.c4; have k5 := hx1.lt
  rcases Bool.eq_false_or_eq_true B.ok with hok | hok
  case inr =>
    have R1 := Lib.hid (show (0 : Int) = scV B n from by simp [scV, hok])
    have R2 := Lib.hid (show (40 : Int) = askErr B.ok (B.isDow n) from by simp [askErr, hok])
    rw [hok] at hv
    have HV := Lib.hid hv
    clear hv hok hb1 hx1 hbk ht hz1
    go_enter Try.func15, Try.ntmps15
    go_wp2_with (go_at_call 44; refine HV.out.mono ?_; rintro e w2 ⟨rfl, hb2⟩; go_must (have h2 := HX.out.below hb2; have j0 := h2.c0; have j1 := h2.c1; have j2 := h2.c2; have j3 := h2.c3; have j4 := h2.c4; have HX2 := Lib.hid h2; have HB2 := Lib.hid hb2; clear h2 hb2))
    go_ret2
    exact ⟨ret_2 R1.out R2.out, bT HB1.out HB2.out⟩
  have HN := Lib.hid (show -100 ≤ B.N ∧ B.N ≤ 100 from by obtain ⟨_, _, ⟨t3, t4⟩, _⟩ := B.ok_parts hok; omega)
  have hn4 : B.N ≤ 4 := by obtain ⟨_, _, ⟨t3, t4⟩, _⟩ := B.ok_parts hok; omega
  have hsc := fun (V : World) (hV : Below w1.heap.size w1 V) => scoresOf_any B p q c d V hok hS (hbk.bel hV)
  rw [hok] at hv
  have HV := Lib.hid hv; have HSC := Lib.hid hsc
  cases hin : within n 0 (B.N - 1) with
  | false =>
    have R1 := Lib.hid (show (0 : Int) = scV B n from by simp [scV, Book.isDow, hin])
    have R2 := Lib.hid (show (1 : Int) = askErr B.ok (B.isDow n) from by simp [askErr, Book.isDow, hin, hok])
    clear hv hok hb1 hx1 hbk ht hz1 hsc
    go_enter Try.func15, Try.ntmps15
    go_wp2_with (first
      | (go_at_call 44; refine HV.out.mono ?_; rintro e w2 ⟨rfl, hb2⟩; go_must (have h2 := HX.out.below hb2; have j0 := h2.c0; have j1 := h2.c1; have j2 := h2.c2; have j3 := h2.c3; have j4 := h2.c4; have HX2 := Lib.hid h2; have HB2 := Lib.hid hb2; clear h2 hb2))
      | (go_at_call 49; refine (isDowser_any _ _ _ _ _ _ _ HN.out.1 HN.out.2).mono ?_; rintro e w3 ⟨rfl, hb3⟩; go_must (clear j0 j1 j2 j3 j4; have h3 := HX2.out.below hb3; have j0 := h3.c0; have j1 := h3.c1; have j2 := h3.c2; have j3 := h3.c3; have j4 := h3.c4; have HB3 := Lib.hid (bT HB2.out hb3); clear h3 hb3)))
    go_ret2
    exact ⟨ret_2 R1.out R2.out, bT HB1.out HB3.out⟩
  | true =>
    have R1' : scTo B B.F.length n.toNat = scV B n := by simp [scV, Book.isDow, hin, hok]
    have R2 := Lib.hid (show (0 : Int) = askErr B.ok (B.isDow n) from by simp [askErr, Book.isDow, hin, hok])
    obtain ⟨i0, i1⟩ := within_iff.1 hin
    clear hv hok hb1 hx1 hbk ht hz1 hsc
    rcases (by omega : n = 0 ∨ n = 1 ∨ n = 2 ∨ n = 3) with rfl | rfl | rfl | rfl <;> have R1 := Lib.hid R1' <;> clear R1' i0 i1
    · have ix : ∀ w, (Instr.index 75 (.agg #[.int .i64 (scTo B B.F.length 0), .int .i64 (scTo B B.F.length 1), .int .i64 (scTo B B.F.length 2), .int .i64 (scTo B B.F.length 3)]) (.int .i64 0)).run Try.prog w = .ok (.int .i64 (scTo B B.F.length 0)) w := fun _ => by kernel_rfl
      go_enter Try.func15, Try.ntmps15
      go_wp2_with (first
        | (go_at_call 44; refine HV.out.mono ?_; rintro e w2 ⟨rfl, hb2⟩; go_must (have h2 := HX.out.below hb2; have j0 := h2.c0; have j1 := h2.c1; have j2 := h2.c2; have j3 := h2.c3; have j4 := h2.c4; have HX2 := Lib.hid h2; have HB2 := Lib.hid hb2; clear h2 hb2))
        | (go_at_call 49; refine (isDowser_any _ _ _ _ _ _ _ HN.out.1 HN.out.2).mono ?_; rintro e w3 ⟨rfl, hb3⟩; go_must (clear j0 j1 j2 j3 j4; have h3 := HX2.out.below hb3; have j0 := h3.c0; have j1 := h3.c1; have j2 := h3.c2; have j3 := h3.c3; have j4 := h3.c4; have HB3 := Lib.hid (bT HB2.out hb3); clear h3 hb3))
        | (go_at_call 50; refine (HSC.out _ HB3.out).mono ?_; rintro e w4 ⟨rfl, hb4⟩; go_must (have HB4 := Lib.hid (bT HB3.out hb4); clear hb4)))
      go_ret2
      exact ⟨ret_2 R1.out R2.out, bT HB1.out HB4.out⟩
    · have ix : ∀ w, (Instr.index 75 (.agg #[.int .i64 (scTo B B.F.length 0), .int .i64 (scTo B B.F.length 1), .int .i64 (scTo B B.F.length 2), .int .i64 (scTo B B.F.length 3)]) (.int .i64 1)).run Try.prog w = .ok (.int .i64 (scTo B B.F.length 1)) w := fun _ => by kernel_rfl
      go_enter Try.func15, Try.ntmps15
      go_wp2_with (first
        | (go_at_call 44; refine HV.out.mono ?_; rintro e w2 ⟨rfl, hb2⟩; go_must (have h2 := HX.out.below hb2; have j0 := h2.c0; have j1 := h2.c1; have j2 := h2.c2; have j3 := h2.c3; have j4 := h2.c4; have HX2 := Lib.hid h2; have HB2 := Lib.hid hb2; clear h2 hb2))
        | (go_at_call 49; refine (isDowser_any _ _ _ _ _ _ _ HN.out.1 HN.out.2).mono ?_; rintro e w3 ⟨rfl, hb3⟩; go_must (clear j0 j1 j2 j3 j4; have h3 := HX2.out.below hb3; have j0 := h3.c0; have j1 := h3.c1; have j2 := h3.c2; have j3 := h3.c3; have j4 := h3.c4; have HB3 := Lib.hid (bT HB2.out hb3); clear h3 hb3))
        | (go_at_call 50; refine (HSC.out _ HB3.out).mono ?_; rintro e w4 ⟨rfl, hb4⟩; go_must (have HB4 := Lib.hid (bT HB3.out hb4); clear hb4)))
      go_ret2
      exact ⟨ret_2 R1.out R2.out, bT HB1.out HB4.out⟩
    · have ix : ∀ w, (Instr.index 75 (.agg #[.int .i64 (scTo B B.F.length 0), .int .i64 (scTo B B.F.length 1), .int .i64 (scTo B B.F.length 2), .int .i64 (scTo B B.F.length 3)]) (.int .i64 2)).run Try.prog w = .ok (.int .i64 (scTo B B.F.length 2)) w := fun _ => by kernel_rfl
      go_enter Try.func15, Try.ntmps15
      go_wp2_with (first
        | (go_at_call 44; refine HV.out.mono ?_; rintro e w2 ⟨rfl, hb2⟩; go_must (have h2 := HX.out.below hb2; have j0 := h2.c0; have j1 := h2.c1; have j2 := h2.c2; have j3 := h2.c3; have j4 := h2.c4; have HX2 := Lib.hid h2; have HB2 := Lib.hid hb2; clear h2 hb2))
        | (go_at_call 49; refine (isDowser_any _ _ _ _ _ _ _ HN.out.1 HN.out.2).mono ?_; rintro e w3 ⟨rfl, hb3⟩; go_must (clear j0 j1 j2 j3 j4; have h3 := HX2.out.below hb3; have j0 := h3.c0; have j1 := h3.c1; have j2 := h3.c2; have j3 := h3.c3; have j4 := h3.c4; have HB3 := Lib.hid (bT HB2.out hb3); clear h3 hb3))
        | (go_at_call 50; refine (HSC.out _ HB3.out).mono ?_; rintro e w4 ⟨rfl, hb4⟩; go_must (have HB4 := Lib.hid (bT HB3.out hb4); clear hb4)))
      go_ret2
      exact ⟨ret_2 R1.out R2.out, bT HB1.out HB4.out⟩
    · have ix : ∀ w, (Instr.index 75 (.agg #[.int .i64 (scTo B B.F.length 0), .int .i64 (scTo B B.F.length 1), .int .i64 (scTo B B.F.length 2), .int .i64 (scTo B B.F.length 3)]) (.int .i64 3)).run Try.prog w = .ok (.int .i64 (scTo B B.F.length 3)) w := fun _ => by kernel_rfl
      go_enter Try.func15, Try.ntmps15
      go_wp2_with (first
        | (go_at_call 44; refine HV.out.mono ?_; rintro e w2 ⟨rfl, hb2⟩; go_must (have h2 := HX.out.below hb2; have j0 := h2.c0; have j1 := h2.c1; have j2 := h2.c2; have j3 := h2.c3; have j4 := h2.c4; have HX2 := Lib.hid h2; have HB2 := Lib.hid hb2; clear h2 hb2))
        | (go_at_call 49; refine (isDowser_any _ _ _ _ _ _ _ HN.out.1 HN.out.2).mono ?_; rintro e w3 ⟨rfl, hb3⟩; go_must (clear j0 j1 j2 j3 j4; have h3 := HX2.out.below hb3; have j0 := h3.c0; have j1 := h3.c1; have j2 := h3.c2; have j3 := h3.c3; have j4 := h3.c4; have HB3 := Lib.hid (bT HB2.out hb3); clear h3 hb3))
        | (go_at_call 50; refine (HSC.out _ HB3.out).mono ?_; rintro e w4 ⟨rfl, hb4⟩; go_must (have HB4 := Lib.hid (bT HB3.out hb4); clear hb4)))
      go_ret2
      exact ⟨ret_2 R1.out R2.out, bT HB1.out HB4.out⟩
end Go.Proofs.Ytaaocomgmacjnaa
